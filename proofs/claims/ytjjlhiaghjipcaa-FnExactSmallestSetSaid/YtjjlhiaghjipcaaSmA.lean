/- Contracts of functions that the laws of this chapter call, packed. -/
import Derived.BigQuiet
import Derived.Test.YtjjlhiaghjipcaaRegSets
import Derived.Test.YtjjlhiaghjipcaaCmpInt
import Derived.Test.YtjjlhiaghjipcaaOwnInt
import Derived.Laws.AppendOwn
import Derived.Test.YtjjlhiaghjipcaaRowsI
import Derived.Test.YtjjlhiaghjipcaaSortLay
import Derived.Deep.Cut
import Derived.Deep.CutRange
import Derived.Test.YtjjlhiaghjipcaaRegretI
import Derived.OwnWalk
import Derived.Test.YtjjlhiaghjipcaaItemImplAre
import Derived.Test.YtjjlhiaghjipcaaItemIds
namespace Go.Proofs.Ytjjlhiaghjipcaa.num
set_option maxRecDepth 20000
open Go.RowKit
set_option linter.unusedVariables false
set_option linter.unusedSimpArgs false

set_option maxRecDepth 20000 in
set_option maxHeartbeats 1600000 in
theorem cmp_rows (w : World) (B : Nat) (A A' : Option Addr) (n n' c c' : Nat) (xs ys : List Int) (hx : Ints w B A n xs) (hy : Ints w B A' n' ys) (hn : n ≤ 1048576) (hn' : n' ≤ 1048576) :
    Calls Try.prog 94 #[.slice A n c, .slice A' n' c'] w fun e w' => e = .returned (.int .i64 (lexC xs ys)) ∧ w' = w := by
  have HX := Lib.hid hx
  have HY := Lib.hid hy
  clear hx hy
  go_enter Try.func94, Try.ntmps94
  go_wp2
  go_loopw [11] (fun i wr => ∃ k : Nat, k ≤ n ∧ k ≤ n' ∧ i = .int .i64 k ∧ xs.take k = ys.take k ∧ wr = w) (fun i _ => n - (intOf i).toNat)
  case atStart => exact ⟨0, Nat.zero_le _, Nat.zero_le _, rfl, rfl, rfl⟩
  case round =>
    obtain ⟨k, hk, hk', rfl, htake, rfl⟩ := hrel
    have HT := Lib.hid htake
    clear htake
    by_cases hlt : k < n
    · obtain ⟨b1, o1, u, rfl, hb1, hat1, hc1⟩ := HX.out.at k hlt
      have hlt' : (k : Int) < (n : Int) := by omega
      have H1 := Lib.hid hat1
      clear hat1
      by_cases hge : k < n'
      · obtain ⟨b2, o2, v, rfl, hb2, hat2, hc2⟩ := HY.out.at k hge
        have hge' : ¬ (n' : Int) ≤ (k : Int) := by omega
        have H2 := Lib.hid hat2
        clear hat2
        have hge2 : (k : Int) < (n' : Int) := by omega
        have HCm := Lib.hid (cmp_int u v wr)
        have hci : cmpI u v = if u < v then -1 else if v < u then 1 else 0 := rfl
        obtain ⟨z, hz⟩ : ∃ z, cmpI u v = z := ⟨_, rfl⟩
        rw [hz] at HCm hci
        have hlx := lexC_at k HT.out H1.out H2.out
        have hstep : z ≠ 0 → lexC xs ys = z := fun h0 => by
          rw [hci] at h0 ⊢
          by_cases h1 : u < v
          · rw [if_pos h1]; exact hlx.1 h1
          · by_cases h2 : v < u
            · rw [if_neg h1, if_pos h2]; exact hlx.2 h2
            · rw [if_neg h1, if_neg h2] at h0; exact absurd rfl h0
        have hsame : z = 0 → u = v := fun h0 => by
          rw [hci] at h0
          by_cases h1 : u < v
          · rw [if_pos h1] at h0; simp at h0
          · by_cases h2 : v < u
            · rw [if_neg h1, if_pos h2] at h0; simp at h0
            · omega
        have HSt := Lib.hid hstep
        have HSa := Lib.hid hsame
        clear hz hci hlx hstep hsame
        go_wp2_with fail
        refine HCm.out.mono ?_
        rintro e w2 ⟨rfl, rfl⟩
        by_cases h0 : z = 0
        · subst h0
          obtain rfl := HSa.out rfl
          go_wp2
          go_roundw
          case rel => exact ⟨k + 1, by omega, by omega, by go_num, by rw [take_at H1.out, take_at H2.out, HT.out], by first | rfl | trivial⟩
          case measure => simp [intOf]; omega
        · have hne : (z != 0) = true := by simpa using h0
          go_wp2
          go_ret
          exact ⟨by rw [HSt.out h0]; rfl, rfl⟩
      · obtain rfl : k = n' := by omega
        have hr : lexC xs ys = 1 := by
          have h1 : ys = xs.take ys.length := by
            have h := HT.out
            rw [take_all HY.out.1] at h
            rw [HY.out.1]
            exact h.symm
          exact lexC_long h1 (by rw [HX.out.1, HY.out.1]; exact hlt)
        have HR := Lib.hid hr
        clear hr
        go_wp2
        go_ret
        exact ⟨by rw [HR.out]; rfl, rfl⟩
    · obtain rfl : k = n := by omega
      have h1 : xs = ys.take xs.length := by
        have h := HT.out
        rw [take_all HX.out.1] at h
        rw [HX.out.1]
        exact h
      have hr := lexC_short h1
      rw [HX.out.1, HY.out.1] at hr
      have HR := Lib.hid hr
      clear h1 hr
      by_cases hl : k < n'
      · have hl' : (k : Int) < (n' : Int) := by omega
        go_wp2
        go_ret
        exact ⟨by rw [HR.out, if_pos hl]; rfl, rfl⟩
      · have hl' : ¬ (k : Int) < (n' : Int) := by omega
        go_wp2
        go_ret
        exact ⟨by rw [HR.out, if_neg hl]; rfl, rfl⟩
set_option maxRecDepth 20000 in
theorem or_two (w : World) (g c : Nat) (a b : Int) (h0 : w.cell? ⟨g, 0, none⟩ = some (.int .i64 a)) (h1 : w.cell? ⟨g, 1, none⟩ = some (.int .i64 b)) :
    Calls Try.prog 92 #[.slice (some ⟨g, 0, none⟩) 2 c] w fun e w' => e = .returned (.int .i64 (if a = 0 then b else a)) ∧ w' = w := by
  have H0 := Lib.hid h0
  have H1 := Lib.hid h1
  clear h0 h1
  go_enter Try.func92, Try.ntmps92
  go_wp2
  go_loopw [8] (fun i wr => ∃ k : Nat, k ≤ 2 ∧ i = .int .i64 k ∧ (0 < k → a = 0) ∧ (1 < k → b = 0) ∧ wr = w) (fun i _ => 2 - (intOf i).toNat)
  case atStart => exact ⟨0, by decide, rfl, fun h => by omega, fun h => by omega, rfl⟩
  case round =>
    obtain ⟨k, hk, rfl, ha, hb, rfl⟩ := hrel
    have q0 := H0.out
    have q1 := H1.out
    rcases (show k = 0 ∨ k = 1 ∨ k = 2 by omega) with rfl | rfl | rfl
    · by_cases h : a = 0
      · subst h
        go_wp2
        go_roundw
        case rel => exact ⟨1, by decide, rfl, (fun _ => by first | rfl | trivial), fun h => by omega, by first | rfl | trivial⟩
        case measure => simp [intOf]
      · have hne : (a != 0) = true := by simpa using h
        go_wp2
        go_ret
        exact ⟨rfl, rfl⟩
    · obtain rfl := ha (by decide)
      by_cases h : b = 0
      · subst h
        go_wp2
        go_roundw
        case rel => exact ⟨2, by decide, rfl, (fun _ => by first | rfl | trivial), (fun _ => by first | rfl | trivial), by first | rfl | trivial⟩
        case measure => simp [intOf]
      · have hne : (b != 0) = true := by simpa using h
        go_wp2
        go_ret
        exact ⟨rfl, rfl⟩
    · obtain rfl := ha (by decide)
      obtain rfl := hb (by decide)
      go_wp2
      go_ret
      exact ⟨rfl, rfl⟩
set_option maxRecDepth 20000 in
theorem cmp_sets (w : World) (B : Nat) (A A' : Option Addr) (n n' c c' : Nat) (xs ys : List Int) (hx : Ints w B A n xs) (hy : Ints w B A' n' ys) (hn : n ≤ 1048576) (hn' : n' ≤ 1048576) :
    Calls Try.prog 91 #[.slice A n c, .slice A' n' c'] w fun e w' => e = .returned (.int .i64 (cmpL xs ys)) ∧ ∃ o, w' = w.alloc o := by
  have h1 := hx.1
  have h2 := hy.1
  obtain ⟨z1, hz1⟩ : ∃ z, cmpI (n : Int) (n' : Int) = z := ⟨_, rfl⟩
  obtain ⟨z2, hz2⟩ : ∃ z, lexC xs ys = z := ⟨_, rfl⟩
  have hr : cmpL xs ys = if z1 = 0 then z2 else z1 := by
    rw [← hz1, ← hz2]
    have e : cmpI (n : Int) (n' : Int) = if n < n' then -1 else if n' < n then 1 else 0 := by unfold cmpI; simp only [Int.ofNat_lt]
    rw [e]
    unfold cmpL
    rw [h1, h2]
    by_cases q1 : n < n'
    · rw [if_pos q1, if_pos q1]; rfl
    · by_cases q2 : n' < n
      · rw [if_neg q1, if_neg q1, if_pos q2, if_pos q2]; rfl
      · rw [if_neg q1, if_neg q1, if_neg q2, if_neg q2]; rfl
  have HC1 := Lib.hid (cmp_int (n : Int) (n' : Int) w)
  have HC2 := Lib.hid (cmp_rows w B A A' n n' c c' xs ys hx hy hn hn')
  rw [hz1] at HC1
  rw [hz2] at HC2
  obtain ⟨z3, hz3⟩ : ∃ z, cmpL xs ys = z := ⟨_, rfl⟩
  rw [hz3] at hr ⊢
  have HOr : Hid (Calls Try.prog 92 #[.slice (some ⟨w.heap.size, 0, none⟩) 2 2] (w.alloc (.cells #[.int .i64 z1, .int .i64 z2] 3)) fun e w' => e = .returned (.int .i64 z3) ∧ w' = w.alloc (.cells #[.int .i64 z1, .int .i64 z2] 3)) := Lib.hid (by rw [hr]; exact or_two _ _ _ _ _ (by rw [World.cell?_alloc_at _ _ _ _ rfl]; rfl) (by rw [World.cell?_alloc_at _ _ _ _ rfl]; rfl))
  clear hx hy h1 h2 hr hz1 hz2 hz3
  go_enter Try.func91, Try.ntmps91
  go_wp2_with fail
  refine HC1.out.mono ?_
  rintro e w1 ⟨rfl, rfl⟩
  go_wp2_with fail
  refine HC2.out.mono ?_
  rintro e w2 ⟨rfl, rfl⟩
  go_wp2_with fail
  refine HOr.out.mono ?_
  rintro e w3 ⟨rfl, rfl⟩
  go_wp2
  go_ret
  exact ⟨rfl, _, rfl⟩
end Go.Proofs.Ytjjlhiaghjipcaa.num
namespace Go.Proofs.Ytjjlhiaghjipcaa.num
set_option maxRecDepth 20000
open Go.RowKit
set_option linter.unusedVariables false
set_option linter.unusedSimpArgs false

/-- What was in a slice of rows before an append is there behind it, at the old place. -/
theorem keep_rows {w w' : World} {B B' g n cap ge : Nat} {ty : TypeId} {l : List IR} {y : IR} {v' : Value} (hown : OwnG 25 irC 1 w B (.slice (some ⟨g, 0, none⟩) n cap) l) (hE : w.cell? ⟨ge, 0, none⟩ = some y.val) (hlen : n ≤ 1000)
    (hr : (Builtin.append_ #[31, 31] ty #[.slice (some ⟨g, 0, none⟩) n cap, .slice (some ⟨ge, 0, none⟩) 1 1]).run Try.prog w = .ok v' w') (ho : OwnG 25 irC 1 w' B' v' (l ++ [y])) : ReadG irC 1 w' w'.heap.size (some ⟨g, 0, none⟩) n l := by
  obtain ⟨i, hi, hz⟩ := Option.map_eq_some_iff.1 info_ints
  simp only [Prod.mk.injEq] at hz
  obtain ⟨hz0, hz1, hz2⟩ := hz
  have hln : l.length = n := (hown.read irC_len).len
  have hnews : ∀ j u, [y.val][j]? = some u → w.cell? ((⟨ge, 0, none⟩ : Addr).add j) = some u := by
    intro j u hj
    rcases j with _ | j
    · simp at hj
      subst hj
      rw [addr_add]
      exact hE
    · simp at hj
  have hread := hown.read irC_len
  have hown0 := hown
  obtain ⟨h0, h | ⟨g', cap', cur, e, hbg, hg, hnc, hcm, hcs, htake⟩⟩ := hown
  · cases h.1
  · injection e with e1 e2 e3
    injection e1 with e1
    injection e1 with e1
    subst e1 e3
    rw [hln] at hnc htake
    by_cases hroom : n + 1 ≤ cap
    · have hr2 := run_append_room (P := Try.prog) w 31 ty 25 i Try.underlying31 hi g n cap cur hg ⟨ge, 0, none⟩ 1 1 [y.val] (by rw [hz1]; rfl) hnews (by simp [IR.val, Value.oneCell']) hroom (by rw [hz1, hcs]; simp; omega)
      have e2 := hr.symm.trans hr2
      injection e2 with e2 e4
      subst e2
      have h1 := (ho.read irC_len).take (k := n) (by omega)
      rwa [List.take_append_of_le_length (by omega), List.take_of_length_le (by omega)] at h1
    · have hcells := hown0.read irC_len
      have hr2 := run_append_grow (P := Try.prog) w 31 ty 25 i _ Try.underlying31 hi hz0 ⟨g, 0, none⟩ n cap (l.flatMap irC) (by rw [fm_len irC_len, hln, hz1]) (fun j u hj => by
        rcases Nat.eq_zero_or_pos n with hn0 | hn0
        · rw [List.eq_nil_of_length_eq_zero (hln.trans hn0)] at hj; simp at hj
        · obtain ⟨b, off, eA, -, hc⟩ := hcells.cells irC_len hn0
          injection eA with eA
          injection eA with e5 e6
          subst e5 e6
          have := hc j u hj
          rwa [Nat.zero_add, ← Nat.zero_add j, ← addr_add] at this) ⟨ge, 0, none⟩ 1 1 [y.val] (by rw [hz1]; rfl) hnews (by omega) (by omega) (by
          have := growslice_fits (need := n + 1) (old := cap) (bytes := i.bytes) (by omega) (by rw [hz2]; omega)
          exact this)
      have e2 := hr.symm.trans hr2
      injection e2 with e2 e4
      subst e4
      exact (hread.blocks fun k hk => heap_alloc_old w.drew _ hk).more (by simp)
theorem subs_small {l : List Int} (h : l.length ≤ 8) : (subs l).length ≤ 256 := by
  rw [subs_len]
  exact Nat.le_trans (Nat.pow_le_pow_right (by decide) h) (by decide)
theorem subs_each {l s : List Int} (h : s ∈ subs l) : s.length ≤ l.length := by
  obtain ⟨k, _, rfl⟩ := subs_mem h
  exact msk_len l k
/-- The sets so far, while those with a number more are made. -/
def setK (l : List Int) (a : Int) (i : Nat) : List (List Int) := subs l ++ ((subs l).take i).map (· ++ [a])
theorem setK_zero (l : List Int) (a : Int) : setK l a 0 = subs l := by simp [setK]
theorem setK_more (l : List Int) (a : Int) (i : Nat) {s : List Int} (h : (subs l)[i]? = some s) : setK l a (i + 1) = setK l a i ++ [s ++ [a]] := by
  unfold setK
  rw [take_at h, List.map_append, List.append_assoc]
  rfl
theorem setK_done (l : List Int) (a : Int) : setK l a (subs l).length = subs (l ++ [a]) := by
  unfold setK
  rw [List.take_length, subs_snoc]
theorem setK_len (l : List Int) (a : Int) (i : Nat) (h : l.length ≤ 8) : (setK l a i).length ≤ 600 := by
  have h1 := subs_small h
  unfold setK
  rw [List.length_append, List.length_map, List.length_take]
  omega
/-- append of one row to rows of the call's own: what it yields, and that every old view of the rows reads on. -/
theorem run_appR {w : World} {B g n cap : Nat} {ty : TypeId} {l : List IR} (y : IR) (hown : OwnR w B (.slice (some ⟨g, 0, none⟩) n cap) l) (hy : OwnI w B y.val y.xs) (hap : ∀ b, y.val.ownBlock = some b → ¬ hasX IRK (.slice (some ⟨g, 0, none⟩) n cap) l b) (hlen : l.length ≤ 1000) (hB : B ≤ w.heap.size) :
    ∃ g' n' c' w', (Builtin.append_ #[31, 31] ty #[.slice (some ⟨g, 0, none⟩) n cap, .slice (some ⟨w.heap.size, 0, none⟩) 1 1]).run Try.prog (w.alloc (.cells #[y.val] 25)) = .ok (.slice (some ⟨g', 0, none⟩) n' c') w' ∧ OwnR w' B (.slice (some ⟨g', 0, none⟩) n' c') (l ++ [y]) ∧ Below B w w' ∧ ∀ {g0 n0 : Nat} {l0 : List IR}, ReadG irC 1 w w.heap.size (some ⟨g0, 0, none⟩) n0 l0 → l.take n0 = l0 → ReadG irC 1 w' w'.heap.size (some ⟨g0, 0, none⟩) n0 l0 := by
  have hln : l.length = n := (hown.r.read irC_len).len
  have hba : Below w.heap.size w (w.alloc (.cells #[y.val] 25)) := (Below.refl _ w).alloc (Nat.le_refl _) _
  have own1 := hown.below hba
  have hE : (w.alloc (.cells #[y.val] 25)).cell? ⟨w.heap.size, 0, none⟩ = some y.val := by
    rw [World.cell?_alloc_at _ _ _ _ rfl]; rfl
  have hsz : (w.alloc (.cells #[y.val] 25)).heap.size = w.heap.size + 1 := World.size_alloc _ _
  have hrd : ReadG irC 1 (w.alloc (.cells #[y.val] 25)) (w.heap.size + 1) (some ⟨w.heap.size, 0, none⟩) 1 [y] := ⟨rfl, fun k x hk => by
    rcases k with _ | k
    · simp at hk
      subst hk
      refine ⟨w.heap.size, 0, rfl, Nat.lt_succ_self _, fun j v hj => ?_⟩
      rcases j with _ | j
      · simp [irC] at hj
        subst hj
        exact hE
      · simp [irC] at hj
    · simp at hk⟩
  obtain ⟨v', w', hr, ho, hg, hat⟩ := run_spreadG irC_len irC_one (ty := ty) (c := 1) Try.underlying31 info_ints rfl (by decide) (by decide) own1.r hrd (by omega) (by rw [hsz]; omega)
  have hg2 : w.grownBy w' (some g) := ⟨hg.os, hg.tape, hg.output, (by have := hg.size; rw [hsz] at this; omega), fun k hk hv => (hg.block k (by rw [hsz]; omega) hv).trans (hba.block k hk)⟩
  have hX : OwnR w' B v' (l ++ [y]) := OwnX.snoc (N := w.heap.size + 1) hown hg2 (by rw [hsz] at hat; exact hat) (Nat.le_succ _) ho hy hap
  obtain ⟨g', n', c', rfl⟩ : ∃ g' n' c', v' = .slice (some ⟨g', 0, none⟩) n' c' := by
    rcases ho.row with ⟨-, e⟩ | ⟨g', cap', F, e, -⟩
    · simp at e
    · exact ⟨g', _, _, e⟩
  refine ⟨g', n', c', w', hr, hX, (Below.refl B w).grown hg2 hB (fun k hk => hown.r.lows k hk), ?_⟩
  intro g0 n0 l0 h0 htk
  by_cases he : g0 = g
  · subst he
    have hk := keep_rows own1.r hE (by omega) hr ho
    have h00 := h0.len
    have hn0 : n0 ≤ n := by
      have := congrArg List.length htk
      rw [List.length_take] at this
      omega
    have := hk.take (k := n0) hn0
    rwa [htk] at this
  · refine ⟨h0.len, fun k x hk => ?_⟩
    obtain ⟨b, off, e, hb, hc⟩ := h0.at' k x hk
    injection e with e
    injection e with e1 e2
    subst e1 e2
    exact ⟨_, _, rfl, Nat.lt_of_lt_of_le hb hg2.size, fun j u hj => (World.cell?_of_block (hg2.block _ hb (fun e => he (by injection e)))).trans (hc j u hj)⟩
theorem own_first (w : World) : OwnR (w.alloc (.cells #[.slice none 0 0] 25)) w.heap.size (.slice (some ⟨w.heap.size, 0, none⟩) 1 1) [⟨none, 0, 0, []⟩] :=
  ⟨⟨rfl, .inr ⟨w.heap.size, 1, #[.slice none 0 0], rfl, Nat.le_refl _, heap_alloc_new w _, Nat.le_refl _, by decide, rfl, rfl⟩⟩, fun k x hk => by
      rcases k with _ | k
      · simp at hk; subst hk; exact ownI_nil _ _
      · simp at hk, fun k x b hk hb => by
      rcases k with _ | k
      · simp at hk; subst hk; cases hb
      · simp at hk, fun i j x y b hij hi hj => by
      rcases j with _ | j
      · omega
      · simp at hj⟩
set_option maxRecDepth 20000 in
set_option maxHeartbeats 6400000 in
/-- setsOf: the sets lie in rows of the call's own, sorted. -/
theorem iSetsOf (w : World) (A : Option Addr) (n c : Nat) (xs : List Int) (hi : Ints w w.heap.size A n xs) (hn : n ≤ 8) (hnc : n ≤ c) (hcm : c ≤ maxLen)
    (HSort : ∀ (W : World) (g m c' : Nat) (rows : List IR), Below w.heap.size w W → OwnR W w.heap.size (.slice (some ⟨g, 0, none⟩) m c') rows → xsR rows = subs xs →
      Calls Try.prog 90 #[.slice (some ⟨g, 0, none⟩) m c', .func (.func 91) #[] #[]] W fun e w' => e = .returned (.tuple #[]) ∧ ∃ rows', OwnR w' w.heap.size (.slice (some ⟨g, 0, none⟩) m c') rows' ∧ (xsR rows').Perm (subs xs) ∧ (xsR rows').Pairwise (fun a b => cmpL a b ≤ 0) ∧ Below w.heap.size W w') :
    Calls Try.prog 60 #[.slice A n c] w fun e w' => (∃ g m c' rows, e = .returned (.slice (some ⟨g, 0, none⟩) m c') ∧ OwnR w' w.heap.size (.slice (some ⟨g, 0, none⟩) m c') rows ∧ (xsR rows).Perm (subs xs) ∧ (xsR rows).Pairwise (fun a b => cmpL a b ≤ 0)) ∧ Below w.heap.size w w' := by
  have HSo := Lib.hid HSort
  have HI := Lib.hid hi
  have H0 := Lib.hid (own_first w)
  have HBz : Hid (Below w.heap.size w (w.alloc (.cells #[.slice none 0 0] 25))) := Lib.hid ((Below.refl _ w).alloc (Nat.le_refl _) _)
  have hxl := hi.1
  have HXl := Lib.hid hxl
  clear HSort hi hxl
  go_enter Try.func60, Try.ntmps60
  go_wp2
  go_loopw [3, 11] (fun v iv wr => ∃ (k g m c1 : Nat) (rows : List IR), k ≤ n ∧ iv = .int .i64 k ∧ v = .slice (some ⟨g, 0, none⟩) m c1 ∧ xsR rows = subs (xs.take k) ∧ OwnR wr w.heap.size (.slice (some ⟨g, 0, none⟩) m c1) rows ∧ Below w.heap.size w wr) (fun _ iv _ => n - (intOf iv).toNat)
  case atStart => exact ⟨0, _, _, _, _, Nat.zero_le _, rfl, rfl, rfl, H0.out, HBz.out⟩
  case round =>
    obtain ⟨k, g, m, c1, rows, hk, rfl, rfl, hx, hown, hbel⟩ := hrel
    obtain ⟨wo, rfl⟩ : ∃ wo, wo = wr := ⟨_, rfl⟩
    have HX := Lib.hid hx
    have HO := Lib.hid hown
    have HB := Lib.hid hbel
    have hm : rows.length = m := (hown.r.read irC_len).len
    have hlc : m ≤ c1 ∧ c1 ≤ maxLen := by
      obtain ⟨_, _, hV, hlc, hcm1⟩ := hown.r.shape
      injection hV with _ hV1 hV
      subst hV
      exact ⟨by omega, hcm1⟩
    have hms : m ≤ 256 := by
      have h1 := congrArg List.length hx
      have h2 := subs_small (l := xs.take k) (by rw [List.length_take, HXl.out]; omega)
      simp only [xsR, List.length_map] at h1
      omega
    have HM := Lib.hid hm
    obtain ⟨hlc, hcm1⟩ := hlc
    have HCm := Lib.hid hcm1
    clear hx hown hm hcm1
    by_cases hlt : k < n
    · obtain ⟨b, off, a, hA, hb, hat, hd⟩ := HI.out.at k hlt
      subst hA
      have f0 := (hbel.cell (p := ⟨b, off + k, none⟩) hb).trans hd
      have hlt' : (k : Int) < (n : Int) := by omega
      have HAt := Lib.hid hat
      have HRd := Lib.hid (HO.out.r.read irC_len)
      clear hd hat hbel
      go_wp2
      clear f0
      go_loopw [3, 17] (fun v iv wq => ∃ (i g1 m1 c2 : Nat) (out : List IR), i ≤ m ∧ iv = .int .i64 i ∧ v = .slice (some ⟨g1, 0, none⟩) m1 c2 ∧ xsR out = setK (xs.take k) a i ∧ OwnR wq w.heap.size (.slice (some ⟨g1, 0, none⟩) m1 c2) out ∧ out.take m = rows ∧ ReadG irC 1 wq wq.heap.size (some ⟨g, 0, none⟩) m rows ∧ Below w.heap.size w wq) (fun _ iv _ => m - (intOf iv).toNat)
      case atStart => exact ⟨0, _, _, _, rows, Nat.zero_le _, rfl, rfl, by rw [setK_zero]; exact HX.out, HO.out, take_all HM.out, HRd.out, HB.out⟩
      case round =>
        obtain ⟨i, g1, m1, c2, out, hi, rfl, rfl, hx, hown, htk, hrd, hbel⟩ := hrel
        obtain ⟨wq, rfl⟩ : ∃ wq, wq = wr := ⟨_, rfl⟩
        have HX1 := Lib.hid hx
        have HO1 := Lib.hid hown
        have HB1 := Lib.hid hbel
        have HT1 := Lib.hid htk
        have HR1 := Lib.hid hrd
        have HLo : Hid (out.length ≤ 600) := Lib.hid (by
          have h1 := congrArg List.length hx
          have h2 := setK_len (xs.take k) a i (by rw [List.length_take, HXl.out]; omega)
          simp only [xsR, List.length_map] at h1
          omega)
        clear hx hown hbel htk
        by_cases hit : i < m
        · obtain ⟨b1, o1, y, hA, hb1, hat1, hd1⟩ := ir_at hrd hit
          injection hA with hA
          injection hA with hA1 hA2
          subst hA1 hA2
          have hit' : (i : Int) < (m : Int) := by omega
          have hyl : (subs (xs.take k))[i]? = some y.xs := by rw [← HX.out]; unfold xsR; rw [List.getElem?_map, hat1]; rfl
          have HYl := Lib.hid hyl
          have hato : out[i]? = some y := by
            have := hat1
            rw [← HT1.out, List.getElem?_take_of_lt hit] at this
            exact this
          have HYx : Hid (OwnI wq w.heap.size y.val y.xs) := Lib.hid (HO1.out.x i y hato)
          have HY8 : Hid (y.xs.length ≤ 8) := Lib.hid (Nat.le_trans (subs_each (mem_of_at hyl)) (by rw [List.length_take, HXl.out]; omega))
          have HCl : Hid (Calls Try.prog 55 #[.slice y.A y.n y.c] wq fun e w' => ∃ v, e = .returned v ∧ OwnI w' wq.heap.size v y.xs ∧ Below wq.heap.size wq w') := Lib.hid (cloneI wq wq.heap.size y.A y.n y.c y.xs (ownI_at HYx.out) (Nat.le_refl _) (by have := (ownI_at HYx.out).1; have := HY8.out; omega))
          rw [Nat.zero_add] at hd1
          clear hat1 hyl hato hrd
          go_wp2_with fail
          refine HCl.out.mono ?_
          rintro e w2 ⟨v3, rfl, ho3, hb2⟩
          have HO3 := Lib.hid ho3
          have HB3 := Lib.hid hb2
          clear ho3 hb2 hd1
          go_wp2_with (at_builtin; refine wp_appI1 w2 (by rfl) (.tmp 23) (.tmp 25) (by rfl) _ _ _ (by rfl) HO3.out _ (a : Int) (by rfl) 1 (by rfl) (by have := HY8.out; omega) HB3.out.size ?_)
          rintro v4 w3 ho4 hg4 hat4
          obtain ⟨A4, n4, c4, hv4, -⟩ := ho4.ints
          subst hv4
          have hb3 : Below wq.heap.size wq w3 := HB3.out.grown hg4 HB3.out.size (fun k hk => ownI_lows HO3.out k hk)
          have HO24 := Lib.hid (HO1.out.below hb3)
          have HB24 := Lib.hid (below_on HB1.out hb3)
          have HR24 := Lib.hid ((HR1.out.below hb3).more hb3.size)
          have HY4 : Hid (OwnI w3 w.heap.size (IR.val ⟨A4, n4, c4, y.xs ++ [a]⟩) (y.xs ++ [a])) := Lib.hid (ownI_lower ho4 HB1.out.size)
          have HAp : Hid (∀ b, (IR.val ⟨A4, n4, c4, y.xs ++ [a]⟩).ownBlock = some b → ¬ hasX IRK (.slice (some ⟨g1, 0, none⟩) m1 c2) out b) := Lib.hid fun b h1 h2 => by
            have h3 := (HO1.out.has_in h2).2
            have h4 := ownI_lows ho4 b h1
            omega
          clear ho4 hg4 hat4 hb3 HO3
          obtain ⟨g5, n5, c5, w4, hr5, ho5, hb5, hk5⟩ := run_appR (ty := 31) ⟨A4, n4, c4, y.xs ++ [a]⟩ HO24.out HY4.out HAp.out (by have := HLo.out; omega) HB24.out.size
          have HO5 := Lib.hid ho5
          have HB5 := Lib.hid (HB24.out.trans hb5)
          have HR5 := Lib.hid (hk5 HR24.out HT1.out)
          clear ho5 hb5 hk5
          go_wp2_with (at_builtin; refine Go.Lib.wpList_append_run_sl _ (by rfl) (.tmp 21) (.tmp 27) 31 (by rfl) _ _ (by rfl) (by rfl) hr5 ?_)
          clear hr5
          go_wp2
          go_roundw
          case rel => exact ⟨i + 1, g5, n5, c5, out ++ [⟨A4, n4, c4, y.xs ++ [a]⟩], by omega, by go_num, rfl, by rw [setK_more (xs.take k) a i HYl.out, ← HX1.out]; simp [xsR], HO5.out, by
              have h1 := congrArg List.length HT1.out
              rw [List.length_take, HM.out] at h1
              rw [List.take_append_of_le_length (by omega)]
              exact HT1.out, HR5.out, HB5.out⟩
          case measure => simp [intOf]; omega
        · obtain rfl : i = m := by omega
          have e : setK (xs.take k) a i = subs (xs.take (k + 1)) := by
            have h1 : i = (subs (xs.take k)).length := by rw [← HX.out, ← HM.out]; simp [xsR]
            rw [take_at HAt.out, h1]
            exact setK_done _ a
          have HE := Lib.hid e
          clear e hrd
          go_wp2
          go_roundw
          case rel => exact ⟨k + 1, g1, m1, c2, out, by omega, by go_num, rfl, by rw [HX1.out, HE.out], HO1.out, HB1.out⟩
          case measure => simp [intOf]; omega
    · obtain rfl : k = n := by omega
      have HX2 : Hid (xsR rows = subs xs) := Lib.hid (by rw [HX.out, take_all HXl.out])
      clear hbel
      go_wp2_with fail
      refine (HSo.out wo g m _ rows HB.out HO.out HX2.out).mono ?_
      rintro e w2 ⟨rfl, rows', ho, hp, hs, hb⟩
      have HF := Lib.hid (And.intro ho (And.intro hp (And.intro hs (HB.out.trans hb))))
      clear ho hp hs hb
      go_wp2
      go_ret
      exact ⟨⟨g, m, _, rows', rfl, HF.out.1, HF.out.2.1, HF.out.2.2.1⟩, HF.out.2.2.2⟩
end Go.Proofs.Ytjjlhiaghjipcaa.num
namespace Go.Proofs.Ytjjlhiaghjipcaa.num
set_option maxRecDepth 20000
open Go.Sort Go.Proofs Go.RowKit Go.Shelf
set_option linter.unusedVariables false
set_option linter.unusedSimpArgs false

section
variable {α : Type} [Inhabited α] {enc : α → Value}
theorem heap_sorted1 {w : World} {g n : Nat} {os : Array Obj} {cur : Array Value} {e : TypeId} {fr : Nat × Nat} (d : Array α) (hb : w.heap[g]? = some (.cells cur e fr)) :
    (sortWorld enc w g 0 n d os).heap[g]? = some (.cells (putCells enc 0 d cur) e fr) := by
  have hg : g < w.heap.size := (Array.getElem?_eq_some_iff.1 hb).1
  unfold sortWorld
  rw [heap_grow_old _ _ (by simpa using hg)]
  simp [putRow, mapBlock, Sort.ahead, Array.getElem?_modify, hb, onCells]
theorem grownBy_sorted1 {w : World} {g n : Nat} {os : Array Obj} (d : Array α) : w.grownBy (sortWorld enc w g 0 n d os) (some g) := by
  refine ⟨rfl, rfl, rfl, by simp [sortWorld], fun j hj hne => ?_⟩
  unfold sortWorld
  rw [heap_grow_old _ _ (by simpa using hj)]
  have : g ≠ j := fun e => hne (by rw [e])
  simp [putRow, mapBlock, Sort.ahead, Array.getElem?_modify, this]
theorem take_put1 (cur : Array Value) (d : Array α) (h : d.size ≤ cur.size) : (putCells enc 0 d cur).toList.take d.size = d.toList.map enc := by
  apply List.ext_getElem?
  intro j
  by_cases hj : j < d.size
  · rw [List.getElem?_take_of_lt hj, Array.getElem?_toList, List.getElem?_map, Array.getElem?_toList]
    simp [putCells, hj, show j < cur.size by omega]
  · rw [List.getElem?_take_eq_none (by omega), List.getElem?_eq_none (by simp; omega)]
theorem holds1_block {w : World} {g : Nat} {cur : Array Value} {e : TypeId} {l : List α} (hb : w.heap[g]? = some (.cells cur e (0, 0))) (ht : cur.toList.take l.length = l.map enc) : Holds enc w g 0 l.toArray := by
  intro j hj
  have hj' : j < l.length := by simpa using hj
  refine ⟨?_, by simp [World.frozen?, hb]⟩
  have h1 : (cur.toList.take l.length)[j]? = (l.map enc)[j]? := by rw [ht]
  rw [List.getElem?_take_of_lt hj', List.getElem?_map, List.getElem?_eq_getElem hj'] at h1
  simp only [World.cell?, hb, Nat.zero_add]
  simp only [Option.isSome_none, Bool.false_eq_true, if_false]
  rw [← Array.getElem?_toList, h1, getElem!_pos l.toArray j hj]
  rfl
end
/-- Rows of the call's own, in another order. -/
theorem OwnX.perm {w : World} {B : Nat} {v : Value} {l l' : List IR} (h : OwnR w B v l) {w' : World} (hg : w.grownBy w' v.ownBlock) (hr : OwnG 25 irC 1 w' B v l') (hp : l'.Perm l) : OwnR w' B v l' := by
  have hmem : ∀ (k : Nat) (x : IR), l'[k]? = some x → ∃ j, l[j]? = some x := fun k x hk => by
    obtain ⟨j, hj, e⟩ := List.getElem_of_mem (hp.mem_iff.1 (mem_of_at hk))
    exact ⟨j, by rw [List.getElem?_eq_getElem hj, e]⟩
  have hpw : l.Pairwise (fun x y => ∀ b, x.val.ownBlock = some b → y.val.ownBlock ≠ some b) := by
    rw [List.pairwise_iff_getElem]
    intro i j hi hj hij b hb
    exact h.d i j _ _ b hij (List.getElem?_eq_getElem hi) (List.getElem?_eq_getElem hj) hb
  have hpw' := (hp.symm.pairwise_iff (fun {x y} hxy b hb hb' => hxy b hb' hb)).1 hpw
  refine ⟨hr, fun k x hk => ?_, fun k x b hk hb => ?_, fun i j x y b hij hi hj hb => ?_⟩
  · obtain ⟨j, hj⟩ := hmem k x hk
    exact IRK.blocks (h.x j x hj) fun b hb => hg.block b (IRK.inn (h.x j x hj) hb).2 fun e => h.a j x b hj hb e.symm
  · obtain ⟨j, hj⟩ := hmem k x hk
    exact h.a j x b hj hb
  · rw [List.pairwise_iff_getElem] at hpw'
    obtain ⟨hi', ei⟩ := List.getElem?_eq_some_iff.1 hi
    obtain ⟨hj', ej⟩ := List.getElem?_eq_some_iff.1 hj
    have := hpw' i j hi' hj' hij b (by rw [ei]; exact hb)
    rw [ej] at this
    exact this
theorem swo_rows {α : Type} (f : α → List Int) : SWO (ltOf fun x y : α => cmpL (f x) (f y)) :=
  ⟨fun x => ltL_irrefl (f x), fun x y z h g => ltL_trans h g, fun x y z h g => ltL_ntrans h g⟩
set_option maxRecDepth 20000 in
set_option maxHeartbeats 1000000 in
theorem iSortR (W : World) (B g m c : Nat) (rows : List IR) (hB : B ≤ W.heap.size) (hown : OwnR W B (.slice (some ⟨g, 0, none⟩) m c) rows) (hs : rows ≠ []) (hm : m ≤ 1000) (hx8 : ∀ x ∈ rows, x.xs.length ≤ 1000)
    (eg : ∀ args w, (callFunc 91 args).run Try.prog w = .ok (.enter 91 args) w) :
    Calls Try.prog 90 #[.slice (some ⟨g, 0, none⟩) m c, .func (.func 91) #[] #[]] W fun e w' => e = .returned (.tuple #[]) ∧ ∃ rows', OwnR w' B (.slice (some ⟨g, 0, none⟩) m c) rows' ∧ rows'.Perm rows ∧ (xsR rows').Pairwise (fun a b => cmpL a b ≤ 0) ∧ Below B W w' := by
  have hln : rows.length = m := (hown.r.read irC_len).len
  rcases hown.r.2 with ⟨e, hl⟩ | ⟨b, cap, cur, e, hBb, hg, h1, h2, h3, h4⟩
  · exact absurd (List.eq_nil_of_length_eq_zero hl) hs
  injection e with e1 e2 e3
  injection e1 with e1
  injection e1 with e1
  subst e1 e3
  obtain ⟨x0, r0, hx0⟩ : ∃ x r, rows = x :: r := by
    cases rows with
    | nil => exact absurd rfl hs
    | cons x r => exact ⟨x, r, rfl⟩
  letI : Inhabited {x : IR // x ∈ rows} := ⟨⟨x0, by rw [hx0]; simp⟩⟩
  let l' : List {x : IR // x ∈ rows} := rows.pmap Subtype.mk (fun x hx => hx)
  have hl' : l'.map Subtype.val = rows := by simp [l', List.map_pmap]
  have hlen : l'.length = rows.length := by simp [l']
  let enc : {x : IR // x ∈ rows} → Value := fun x => x.1.val
  have hfm : ∀ q : List {x : IR // x ∈ rows}, (q.map Subtype.val).flatMap irC = q.map enc := fun q => by
    induction q with
    | nil => rfl
    | cons a r ih => rw [List.map_cons, List.flatMap_cons, ih]; rfl
  have hH : Holds enc W g 0 l'.toArray := holds1_block hg (by rw [hlen, ← hfm, hl']; have h5 : cur.toList.take (rows.length * 1) = rows.flatMap irC := h4; rwa [Nat.mul_one] at h5)
  have hblk : g < W.heap.size := (Array.getElem?_eq_some_iff.1 hg).1
  have hcm : CmpLays1 Try.prog 91 #[] enc (fun x y => cmpL x.1.xs y.1.xs) g 0 l'.toArray.size W := fun q os dk hdk x y => by
    have hgr := grownBy_sorted1 (enc := enc) (w := W) (g := g) (n := q) (os := os) dk
    have hrd : ∀ z : {x : IR // x ∈ rows}, Ints (sortWorld enc W g 0 q dk os) (sortWorld enc W g 0 q dk os).heap.size z.1.A z.1.n z.1.xs := fun z => by
      obtain ⟨j, hj, ez⟩ := List.getElem_of_mem z.2
      have hj2 : rows[j]? = some z.1 := by rw [List.getElem?_eq_getElem hj, ez]
      exact ownI_at (ownI_blocks (hown.x j z.1 hj2) fun b hb => hgr.block b (IRK.inn (hown.x j z.1 hj2) hb).2 fun e => hown.a j z.1 b hj2 hb e.symm)
    have hsm : ∀ z : {x : IR // x ∈ rows}, z.1.n ≤ 1048576 := fun z => by
      have := (hrd z).1
      have := hx8 z.1 z.2
      omega
    refine (cmp_sets (sortWorld enc W g 0 q dk os) _ x.1.A y.1.A x.1.n y.1.n x.1.c y.1.c x.1.xs y.1.xs (hrd x) (hrd y) (hsm x) (hsm y)).mono ?_
    rintro e w' ⟨rfl, o, rfl⟩
    exact ⟨rfl, 0, #[o], alloc_eq_grow _ _⟩
  have hcon := Any.slices_SortFunc (ρ := sortRowsRen) sortRows enc (fun x => rfl) (fun x y => cmpL x.1.xs y.1.xs) (swo_rows fun x : {x : IR // x ∈ rows} => x.1.xs) 91 #[] g 0 c l'.toArray W eg hcm hH hblk (by simp only [List.size_toArray, hlen]; omega)
  have hsz : l'.toArray.size = m := by simp [hlen, hln]
  rw [hsz] at hcon
  refine hcon.mono ?_
  rintro e w' ⟨rfl, d', q, os, hp, hso, rfl⟩
  obtain ⟨hp1, -, hp3⟩ := hp
  have hd' : d'.size = m := by rw [hp1, hsz]
  have hex : d'.extract 0 m = d' := by rw [← hd']; simp
  have hex2 : l'.toArray.extract 0 m = l'.toArray := by rw [← hsz]; simp
  rw [hex, hex2] at hp3
  have hpr : (d'.toList.map Subtype.val).Perm rows := by
    have := hp3.map Subtype.val
    rwa [show l'.toArray.toList = l' by simp, hl'] at this
  have hgr := grownBy_sorted1 (enc := enc) (w := W) (g := g) (n := q) (os := os) d'
  have hl2 : (d'.toList.map Subtype.val).length = m := by simp [hd']
  have hG : OwnG 25 irC 1 (sortWorld enc W g 0 q d' os) B (.slice (some ⟨g, 0, none⟩) m c) (d'.toList.map Subtype.val) := by
    unfold OwnG
    rw [hl2, hfm]
    refine ⟨by simp [hd'], .inr ⟨g, c, _, rfl, hBb, heap_sorted1 _ hg, by omega, h2, by have h6 : cur.size = c * 1 := h3; simp [putCells]; omega, ?_⟩⟩
    rw [Nat.mul_one, ← hd']
    have h6 : cur.size = c * 1 := h3
    exact take_put1 _ _ (by omega)
  refine ⟨rfl, d'.toList.map Subtype.val, hown.perm hgr hG hpr, hpr, ?_, (Below.refl B W).grown hgr hB (fun k hk => by injection hk with hk; omega)⟩
  unfold xsR
  rw [List.map_map, List.pairwise_map, List.pairwise_iff_getElem]
  intro i j hi hj hij
  have hi2 : i < d'.size := by simpa using hi
  have hj2 : j < d'.size := by simpa using hj
  have := hso i j (Nat.zero_le _) hij (by omega)
  rw [getElem!_pos d' i hi2, getElem!_pos d' j hj2] at this
  have h5 := ltL_false.1 this
  simpa using h5
end Go.Proofs.Ytjjlhiaghjipcaa.num
namespace Go.Proofs.Ytjjlhiaghjipcaa.num
set_option maxRecDepth 20000
open Go.RowKit
set_option linter.unusedVariables false
set_option linter.unusedSimpArgs false

theorem reg_small (ds cs : List Da) (hs : ∀ d ∈ cs, d ∈ ds) : (Fr.mk (reg ds cs).num (reg ds cs).den).Small := by
  have h := reg_range hs
  unfold Fr.Small
  show 0 ≤ (reg _ _).num ∧ (reg _ _).num ≤ 100 ∧ 0 ≤ (reg _ _).den ∧ (reg _ _).den ≤ 100
  omega
set_option maxRecDepth 20000 in
set_option maxHeartbeats 800000 in
/-- slices.IndexFunc over rows: the first one's place. -/
theorem idxRows (w : World) (A : Option Addr) (n c : Nat) (rows : List IR) (h : ReadG irC 1 w w.heap.size A n rows) (hn : n ≤ 1048576) (fn : Nat) (cb : Array Value) (eg : ∀ args w, (callFunc fn args).run Try.prog w = .ok (.enter fn args) w) (hold : IR → Bool)
    (HC : ∀ W, Below w.heap.size w W → ∀ u ∈ rows, Calls Try.prog fn (#[.slice u.A u.n u.c] ++ cb) W fun e w' => e = .returned (.bool (hold u)) ∧ Below W.heap.size W w') :
    Calls Try.prog 62 #[.slice A n c, .func (.func fn) #[] cb] w fun e w' => ((e = .returned (.int .i64 (-1)) ∧ ∀ u ∈ rows, hold u = false) ∨ ∃ k x, k < n ∧ e = .returned (.int .i64 (k : Int)) ∧ rows[k]? = some x ∧ hold x = true ∧ ∀ u ∈ rows.take k, hold u = false) ∧ Below w.heap.size w w' := by
  have HX := Lib.hid h
  have HF := Lib.hid HC
  clear h HC
  go_enter Try.func62, Try.ntmps62
  go_wp2
  go_loopw [8] (fun i wr => ∃ k : Nat, k ≤ n ∧ i = .int .i64 k ∧ (∀ u ∈ rows.take k, hold u = false) ∧ Below w.heap.size w wr) (fun i _ => n - (intOf i).toNat)
  case atStart => exact ⟨0, Nat.zero_le _, rfl, by simp, Below.refl _ _⟩
  case round =>
    obtain ⟨k, hk, rfl, hall, hbel⟩ := hrel
    have HA := Lib.hid hall
    have HB := Lib.hid hbel
    clear hall
    by_cases hlt : k < n
    · obtain ⟨b, off, x, rfl, hb, hat, d0⟩ := ir_at HX.out hlt
      have f0 := (hbel.cell (p := ⟨b, off + k, none⟩) hb).trans d0
      have HAt := Lib.hid hat
      have hlt' : (k : Int) < (n : Int) := by omega
      have HC1 := HF.out wr HB.out x (mem_of_at hat)
      obtain ⟨z, hz⟩ : ∃ z, hold x = z := ⟨_, rfl⟩
      rw [hz] at HC1
      have HZ := Lib.hid hz
      have HC2 := Lib.hid HC1
      clear d0 hat hbel hz HC1
      go_wp2_with fail
      refine HC2.out.mono ?_
      rintro e w2 ⟨rfl, hb2⟩
      have HB2 := Lib.hid (below_on HB.out hb2)
      clear hb2 f0 HC2
      cases z
      · go_wp2
        go_roundw
        case rel => exact ⟨k + 1, by omega, by go_num, any_stepA HAt.out HA.out HZ.out, HB2.out⟩
        case measure => simp [intOf]; omega
      · go_wp2
        go_ret
        exact ⟨.inr ⟨k, x, hlt, rfl, HAt.out, HZ.out, HA.out⟩, HB2.out⟩
    · obtain rfl : k = n := by omega
      have h := HA.out
      rw [take_all HX.out.len] at h
      have HH := Lib.hid h
      clear h hbel
      go_wp2
      go_ret
      exact ⟨.inl ⟨rfl, HH.out⟩, HB.out⟩
set_option maxRecDepth 20000 in
set_option maxHeartbeats 6400000 in
theorem small_c (wR : World) (B : Nat) (A : Option Addr) (n c : Nat) (its : List It) (hi : Items wR B A n its) (hBR : B ≤ wR.heap.size) (hn : n ≤ 1048576) (x : IR) (h2 : Ints wR wR.heap.size x.A x.n x.xs) (hn2 : x.n ≤ 1048576) (g1 g2 g3 : Nat) (num den : Int) (h1 : SlB wR g1 (.slice A n c)) (hg2 : SlB wR g2 (.int .i64 num)) (hg3 : SlB wR g3 (.int .i64 den)) (hq : (Fr.mk num den).Small) (okv : Bool) (hok : okv = true ↔ okS (its.map It.dat) num den x.xs) :
    Calls Try.prog 63 #[.slice x.A x.n x.c, .pointer (some ⟨g1, 0, none⟩), .pointer (some ⟨g2, 0, none⟩), .pointer (some ⟨g3, 0, none⟩)] wR fun e w' => e = .returned (.bool okv) ∧ Below wR.heap.size wR w' := by
  have HBR : Hid (Below wR.heap.size wR wR) := Lib.hid (Below.refl _ _)
  obtain ⟨L, hL⟩ : ∃ L, (its.filter fun u => decide (u.id ∈ x.xs)) = L := ⟨_, rfl⟩
  have hLl : L.length ≤ 1048576 := by rw [← hL]; exact Nat.le_trans (List.length_filter_le _ _) (by rw [hi.1]; exact hn)
  have hLs : ∀ u ∈ L, u ∈ its := fun u hu => by rw [← hL] at hu; exact (List.mem_filter.1 hu).1
  have hLd : L.map It.dat = pk x.xs (its.map It.dat) := by rw [← hL]; exact filter_dat its x.xs
  have HIn : Hid (∀ W, Below wR.heap.size wR W → ∀ u ∈ L, Ints W W.heap.size u.A u.n u.xs) := Lib.hid fun W hW u hu => (hi.all (hLs u hu)).more hBR |>.below hW |>.more hW.size
  have HWi : Hid (∀ W, Below wR.heap.size wR W → Calls Try.prog 53 #[.slice A n c, .slice x.A x.n x.c] W fun e w' => (∃ v, e = .returned v ∧ OwnTs w' W.heap.size v L) ∧ Below W.heap.size W w') := Lib.hid fun W hW => by
    rw [← hL]
    exact iWith W B A n c its (hi.below (hW.mono hBR)).readT (Nat.le_trans hBR hW.size) hn wR.heap.size x.A x.n x.c x.xs (h2.below hW) hW.size hn2
  obtain ⟨R, hR⟩ : ∃ R, reg (its.map It.dat) (L.map It.dat) = R := ⟨_, rfl⟩
  have HGr : Hid (∀ W A4 c4, Below wR.heap.size wR W → Items W W.heap.size A4 L.length L → Calls Try.prog 52 #[.slice A n c, .slice A4 L.length c4] W fun e w' => (∃ v, e = .returned (.tuple #[.agg #[.int .i64 R.num, .int .i64 R.den], v]) ∧ OwnI w' W.heap.size v R.ws) ∧ Below W.heap.size W w') := Lib.hid fun W A4 c4 hW hI =>
    iGR W W.heap.size A A4 n L.length c c4 its L ((hi.below (hW.mono hBR)).up (Nat.le_trans hBR hW.size)) hI (Nat.le_refl _) hn hLl (fun d hd => by
      obtain ⟨u, hu, rfl⟩ := List.mem_map.1 hd
      exact List.mem_map_of_mem (hLs u hu)) R hR
  have hRs : (Fr.mk R.num R.den).Small := by rw [← hR]; exact reg_small _ _ (fun d hd => by
    obtain ⟨u, hu, rfl⟩ := List.mem_map.1 hd
    exact List.mem_map_of_mem (hLs u hu))
  have hval : (!((Fr.mk num den).less ⟨R.num, R.den⟩)) = okv := by
    rw [Bool.eq_iff_iff, hok]
    unfold Fr.less okS
    rw [← hLd, hR, Bool.not_eq_true', decide_eq_false_iff_not]
    exact Int.not_lt
  have HLess : Hid (∀ W, Calls Try.prog 64 #[.agg #[.int .i64 num, .int .i64 den], .agg #[.int .i64 R.num, .int .i64 R.den]] W fun e w' => e = .returned (.bool ((Fr.mk num den).less ⟨R.num, R.den⟩)) ∧ Below W.heap.size W w') := Lib.hid fun W => less_c ⟨num, den⟩ ⟨R.num, R.den⟩ hq hRs W
  obtain ⟨lv, hlv⟩ : ∃ lv, (Fr.mk num den).less ⟨R.num, R.den⟩ = lv := ⟨_, rfl⟩
  rw [hlv] at hval HLess
  have H2 := Lib.hid hg2
  have H3 := Lib.hid hg3
  subst hval
  clear hi h2 hL hLl hLs hLd hR hRs hlv hok hg2 hg3 hq
  obtain ⟨hbR, f1⟩ := h1
  have hlo : wR.heap.size ≤ wR.heap.size := Nat.le_refl _
  go_enter Try.func63, Try.ntmps63
  go_upto_region 1 with (fail)
  go_cut [6, 7] from 8 to 15 (fun s6 s7 wx => ∃ g v, s6 = .pointer (some ⟨g, 0, none⟩) ∧ s7 = v ∧ FrB wx g ⟨R.num, R.den⟩ ∧ OwnI wx wR.heap.size v R.ws ∧ Below wR.heap.size wR wx)
  case first =>
    have hS0 : (fun w' => w'.cell? ⟨g1, 0, none⟩ = some (.slice A n c)) wR.drew := f1
    refine wp_region_held (S := fun w' => w'.cell? ⟨g1, 0, none⟩ = some (.slice A n c)) (by kernel_rfl) ?_
    change wpAnyH _ _ _ _ _ _ _ _ (World.drew _)
    have hBD0 : Below wR.heap.size wR wR.drew := (Below.refl _ wR).drew
    obtain ⟨wD, hwD⟩ : ∃ wD, World.drew wR = wD := ⟨_, rfl⟩
    rw [hwD] at hS0 ⊢
    have hBD : Below wR.heap.size wR wD := by rw [← hwD]; exact hBD0
    clear hwD hBD0
    refine takeY 9 (i := 0) (v := ?vx1) rfl rfl (by kernel_rfl) (by kernel_rfl) (by kernel_rfl) (fun _ _ _ h => h) (by kernel_rfl) ?yx1 hS0 ?_
    case yx1 =>
      intro w' hw'; (try dsimp only at hw'); obtain q1 := hw'; go_simp; try with_reducible rfl
    simp only [Act.put, List.setIfInBounds_toArray, List.set_cons_zero, List.set_cons_succ]
    refine takeY 10 (i := 1) (v := ?vx2) rfl rfl (by kernel_rfl) (by kernel_rfl) (by kernel_rfl) (fun _ _ _ h => h) (by kernel_rfl) ?yx2 hS0 ?_
    case yx2 =>
      intro w' hw'; (try dsimp only at hw'); obtain q1 := hw'; go_simp; try with_reducible rfl
    simp only [Act.put, List.setIfInBounds_toArray, List.set_cons_zero, List.set_cons_succ]
    refine takeY 11 (i := 2) (v := ?vx3) rfl rfl (by kernel_rfl) (by kernel_rfl) (by kernel_rfl) (fun _ _ _ h => h) (by kernel_rfl) ?yx3 hS0 ?_
    case yx3 =>
      intro w' hw'; (try dsimp only at hw'); obtain q1 := hw'; go_simp; try with_reducible rfl
    simp only [Act.put, List.setIfInBounds_toArray, List.set_cons_zero, List.set_cons_succ]
    refine wpAnyH_ready (rs := [3, 8]) (by kernel_rfl) (by simp) ?_
    refine (AllReadyH.cons rfl (fun K hK => ?_) (AllReadyH.cons rfl (fun K hK => ?_) AllReadyH.nil))
    · go_simp
      go_at_call 53
      refine (HWi.out _ hBD).mono ?_
      rintro e w1 ⟨⟨v, rfl, ho⟩, hb1⟩
      obtain ⟨A4, c4, rfl, -, -⟩ := ho.shape
      have hB1 : Below wR.heap.size wR w1 := below_on hBD hb1
      refine hK.out _ _ ((hB1.cell (p := ⟨g1, 0, none⟩) hbR).trans f1) (fun hS1 => ?_)
      clear hK K
      try simp only [Act.put, List.setIfInBounds_toArray, List.set_cons_zero, List.set_cons_succ]
      have hT1 : Items w1 w1.heap.size A4 L.length L := Items.ofr (ho.read itCs_len) (HIn.out _ hB1)
      clear hb1 ho
      refine wpAnyH_ready (rs := [4, 8]) (by kernel_rfl) (by simp) ?_
      refine (AllReadyH.cons rfl (fun K hK => ?_) (AllReadyH.cons rfl (fun K hK => ?_) AllReadyH.nil))
      · go_simp
        go_at_call 52
        refine (HGr.out _ _ _ hB1 hT1).mono ?_
        rintro e w2 ⟨⟨v5, rfl, ho⟩, hb2⟩
        have hB2 : Below wR.heap.size wR w2 := below_on hB1 hb2
        refine hK.out _ _ ((hB2.cell (p := ⟨g1, 0, none⟩) hbR).trans f1) (fun hS2 => ?_)
        clear hK K
        try simp only [Act.put, List.setIfInBounds_toArray, List.set_cons_zero, List.set_cons_succ]
        have hO2 : OwnI w2 wR.heap.size v5 R.ws := ownI_lower ho hB1.size
        clear hb2 ho
        refine takeY 8 (i := 5) (v := ?vx4) rfl rfl (by kernel_rfl) (by kernel_rfl) (by kernel_rfl) (fun _ _ _ h => h) (by kernel_rfl) ?yx4 hS2 ?_
        case yx4 =>
          intro w' hw'; (try dsimp only at hw'); obtain q1 := hw'; go_simp; try with_reducible rfl
        simp only [Act.put, List.setIfInBounds_toArray, List.set_cons_zero, List.set_cons_succ]
        refine takeY 14 (i := 6) (v := ?vx5) rfl rfl (by kernel_rfl) (by kernel_rfl) (by kernel_rfl) (fun _ _ _ h => h) (by kernel_rfl) ?yx5 hS2 ?_
        case yx5 =>
          intro w' hw'; (try dsimp only at hw'); obtain q1 := hw'; go_simp; try with_reducible rfl
        simp only [Act.put, List.setIfInBounds_toArray, List.set_cons_zero, List.set_cons_succ]
        refine takeY 15 (i := 7) (v := ?vx6) rfl rfl (by kernel_rfl) (by kernel_rfl) (by kernel_rfl) (fun _ _ _ h => h) (by kernel_rfl) ?yx6 hS2 ?_
        case yx6 =>
          intro w' hw'; (try dsimp only at hw'); obtain q1 := hw'; go_simp; try with_reducible rfl
        simp only [Act.put, List.setIfInBounds_toArray, List.set_cons_zero, List.set_cons_succ]
        refine wpAnyH_ready (rs := [8]) (by kernel_rfl) (by simp) ?_
        refine (AllReadyH.cons rfl (fun K hK => ?_) AllReadyH.nil)
        go_simp
        refine hK.out _ _ (((hB2.alloc hB2.size _).cell (p := ⟨g1, 0, none⟩) hbR).trans f1) (fun hS3 => ?_)
        clear hK K
        try simp only [Act.put, List.setIfInBounds_toArray, List.set_cons_zero, List.set_cons_succ]
        obtain ⟨w3, hw3⟩ : ∃ w', World.alloc w2 (.cells #[.int .i64 0, .int .i64 0] 74) = w' := ⟨_, rfl⟩
        have hB3 : Below wR.heap.size wR w3 := by rw [← hw3]; exact hB2.alloc hB2.size _
        have hb3 : Below w2.heap.size w2 w3 := by rw [← hw3]; exact (Below.refl _ _).alloc (Nat.le_refl _) _
        have hO3 := ownI_below hO2 hb3
        have hF3 : FrB w3 (w2.heap.size) ⟨0, 0⟩ := by rw [← hw3]; exact FrB.new w2 ⟨0, 0⟩
        try rw [hw3]
        try rw [hw3] at hS3
        clear hw3 hb3
        have hghF : wR.heap.size ≤ w2.heap.size := hB2.size
        have hne : ∀ k, v5.ownBlock = some k → k ≠ w2.heap.size := fun k hk e => by have h1 := ownI_tops hO2 k hk; omega
        obtain ⟨c0, c1, z0, z1⟩ := hF3.cells
        refine wpAnyH_ready (rs := [9]) (by kernel_rfl) (by simp) ?_
        refine (AllReadyH.cons rfl (fun K hK => ?_) AllReadyH.nil)
        go_simp
        refine hK.out _ _ (((hB3.setCell (p := ⟨w2.heap.size, 0, none⟩) hghF _).setCell (p := ⟨w2.heap.size, 1, none⟩) hghF _).cell (p := ⟨g1, 0, none⟩) hbR |>.trans f1) (fun hS4 => ?_)
        clear hK K
        try simp only [Act.put, List.setIfInBounds_toArray, List.set_cons_zero, List.set_cons_succ]
        refine takeY 7 (i := 10) (v := ?vx7) rfl rfl (by kernel_rfl) (by kernel_rfl) (by kernel_rfl) (fun _ _ _ h => h) (by kernel_rfl) ?yx7 hS4 ?_
        case yx7 =>
          intro w' hw'; (try dsimp only at hw'); obtain q1 := hw'; go_simp; try with_reducible rfl
        simp only [Act.put, List.setIfInBounds_toArray, List.set_cons_zero, List.set_cons_succ]
        refine wpAnyH_done (by kernel_rfl) ?_ _
        go_wp2
        go_meet
        exact ⟨w2.heap.size, v5, rfl, rfl, hF3.set _ _, ownI_lower (ownI_blocks hO3 fun k hk => by rw [heap_setCell_other _ _ _ _ (hne k hk), heap_setCell_other _ _ _ _ (hne k hk)]) hlo, below_on HBR.out ((hB3.setCell (p := ⟨w2.heap.size, 0, none⟩) hghF _).setCell (p := ⟨w2.heap.size, 1, none⟩) hghF _)⟩
      · go_simp
        refine hK.out _ _ (((hB1.alloc hB1.size _).cell (p := ⟨g1, 0, none⟩) hbR).trans f1) (fun hS5 => ?_)
        clear hK K
        try simp only [Act.put, List.setIfInBounds_toArray, List.set_cons_zero, List.set_cons_succ]
        obtain ⟨w5, hw5⟩ : ∃ w', World.alloc w1 (.cells #[.int .i64 0, .int .i64 0] 74) = w' := ⟨_, rfl⟩
        have hB5 : Below wR.heap.size wR w5 := by rw [← hw5]; exact hB1.alloc hB1.size _
        have hb5 : Below w1.heap.size w1 w5 := by rw [← hw5]; exact (Below.refl _ _).alloc (Nat.le_refl _) _
        have hT5 := Items.now hT1 hb5
        have hF5 : FrB w5 (w1.heap.size) ⟨0, 0⟩ := by rw [← hw5]; exact FrB.new w1 ⟨0, 0⟩
        try rw [hw5]
        try rw [hw5] at hS5
        clear hw5 hb5
        have hghF : wR.heap.size ≤ w1.heap.size := hB1.size
        refine wpAnyH_ready (rs := [4]) (by kernel_rfl) (by simp) ?_
        refine (AllReadyH.cons rfl (fun K hK => ?_) AllReadyH.nil)
        go_simp
        go_at_call 52
        refine (HGr.out _ _ _ hB5 hT5).mono ?_
        rintro e w6 ⟨⟨v5, rfl, ho⟩, hb6⟩
        have hB6 : Below wR.heap.size wR w6 := below_on hB5 hb6
        refine hK.out _ _ ((hB6.cell (p := ⟨g1, 0, none⟩) hbR).trans f1) (fun hS6 => ?_)
        clear hK K
        try simp only [Act.put, List.setIfInBounds_toArray, List.set_cons_zero, List.set_cons_succ]
        have hF6 := hF5.below hb6
        have hO6 : OwnI w6 wR.heap.size v5 R.ws := ownI_lower ho hB5.size
        have hne : ∀ k, v5.ownBlock = some k → k ≠ w1.heap.size := fun k hk e => by
          have h1 := ownI_lows ho k hk
          have h2 := hF5.lt
          omega
        clear hb6 ho
        refine takeY 8 (i := 5) (v := ?vx8) rfl rfl (by kernel_rfl) (by kernel_rfl) (by kernel_rfl) (fun _ _ _ h => h) (by kernel_rfl) ?yx8 hS6 ?_
        case yx8 =>
          intro w' hw'; (try dsimp only at hw'); obtain q1 := hw'; go_simp; try with_reducible rfl
        simp only [Act.put, List.setIfInBounds_toArray, List.set_cons_zero, List.set_cons_succ]
        refine takeY 14 (i := 6) (v := ?vx9) rfl rfl (by kernel_rfl) (by kernel_rfl) (by kernel_rfl) (fun _ _ _ h => h) (by kernel_rfl) ?yx9 hS6 ?_
        case yx9 =>
          intro w' hw'; (try dsimp only at hw'); obtain q1 := hw'; go_simp; try with_reducible rfl
        simp only [Act.put, List.setIfInBounds_toArray, List.set_cons_zero, List.set_cons_succ]
        refine takeY 15 (i := 7) (v := ?vx10) rfl rfl (by kernel_rfl) (by kernel_rfl) (by kernel_rfl) (fun _ _ _ h => h) (by kernel_rfl) ?yx10 hS6 ?_
        case yx10 =>
          intro w' hw'; (try dsimp only at hw'); obtain q1 := hw'; go_simp; try with_reducible rfl
        simp only [Act.put, List.setIfInBounds_toArray, List.set_cons_zero, List.set_cons_succ]
        obtain ⟨c0, c1, z0, z1⟩ := hF6.cells
        refine wpAnyH_ready (rs := [9]) (by kernel_rfl) (by simp) ?_
        refine (AllReadyH.cons rfl (fun K hK => ?_) AllReadyH.nil)
        go_simp
        refine hK.out _ _ (((hB6.setCell (p := ⟨w1.heap.size, 0, none⟩) hghF _).setCell (p := ⟨w1.heap.size, 1, none⟩) hghF _).cell (p := ⟨g1, 0, none⟩) hbR |>.trans f1) (fun hS7 => ?_)
        clear hK K
        try simp only [Act.put, List.setIfInBounds_toArray, List.set_cons_zero, List.set_cons_succ]
        refine takeY 7 (i := 10) (v := ?vx11) rfl rfl (by kernel_rfl) (by kernel_rfl) (by kernel_rfl) (fun _ _ _ h => h) (by kernel_rfl) ?yx11 hS7 ?_
        case yx11 =>
          intro w' hw'; (try dsimp only at hw'); obtain q1 := hw'; go_simp; try with_reducible rfl
        simp only [Act.put, List.setIfInBounds_toArray, List.set_cons_zero, List.set_cons_succ]
        refine wpAnyH_done (by kernel_rfl) ?_ _
        go_wp2
        go_meet
        exact ⟨w1.heap.size, v5, rfl, rfl, hF6.set _ _, ownI_lower (ownI_blocks hO6 fun k hk => by rw [heap_setCell_other _ _ _ _ (hne k hk), heap_setCell_other _ _ _ _ (hne k hk)]) hlo, below_on HBR.out ((hB6.setCell (p := ⟨w1.heap.size, 0, none⟩) hghF _).setCell (p := ⟨w1.heap.size, 1, none⟩) hghF _)⟩
    · go_simp
      refine hK.out _ _ (((hBD.alloc hBD.size _).cell (p := ⟨g1, 0, none⟩) hbR).trans f1) (fun hS8 => ?_)
      clear hK K
      try simp only [Act.put, List.setIfInBounds_toArray, List.set_cons_zero, List.set_cons_succ]
      obtain ⟨w8, hw8⟩ : ∃ w', World.alloc wD (.cells #[.int .i64 0, .int .i64 0] 74) = w' := ⟨_, rfl⟩
      have hB8 : Below wR.heap.size wR w8 := by rw [← hw8]; exact hBD.alloc hBD.size _
      have hb8 : Below wD.heap.size wD w8 := by rw [← hw8]; exact (Below.refl _ _).alloc (Nat.le_refl _) _
      have hF8 : FrB w8 (wD.heap.size) ⟨0, 0⟩ := by rw [← hw8]; exact FrB.new wD ⟨0, 0⟩
      try rw [hw8]
      try rw [hw8] at hS8
      clear hw8 hb8
      have hghF : wR.heap.size ≤ wD.heap.size := hBD.size
      refine wpAnyH_ready (rs := [3]) (by kernel_rfl) (by simp) ?_
      refine (AllReadyH.cons rfl (fun K hK => ?_) AllReadyH.nil)
      go_simp
      go_at_call 53
      refine (HWi.out _ hB8).mono ?_
      rintro e w9 ⟨⟨v, rfl, ho⟩, hb9⟩
      obtain ⟨A4, c4, rfl, -, -⟩ := ho.shape
      have hB9 : Below wR.heap.size wR w9 := below_on hB8 hb9
      refine hK.out _ _ ((hB9.cell (p := ⟨g1, 0, none⟩) hbR).trans f1) (fun hS9 => ?_)
      clear hK K
      try simp only [Act.put, List.setIfInBounds_toArray, List.set_cons_zero, List.set_cons_succ]
      have hF9 := hF8.below hb9
      have hT9 : Items w9 w9.heap.size A4 L.length L := Items.ofr (ho.read itCs_len) (HIn.out _ hB9)
      clear hb9 ho
      refine wpAnyH_ready (rs := [4]) (by kernel_rfl) (by simp) ?_
      refine (AllReadyH.cons rfl (fun K hK => ?_) AllReadyH.nil)
      go_simp
      go_at_call 52
      refine (HGr.out _ _ _ hB9 hT9).mono ?_
      rintro e w10 ⟨⟨v5, rfl, ho⟩, hb10⟩
      have hB10 : Below wR.heap.size wR w10 := below_on hB9 hb10
      refine hK.out _ _ ((hB10.cell (p := ⟨g1, 0, none⟩) hbR).trans f1) (fun hS10 => ?_)
      clear hK K
      try simp only [Act.put, List.setIfInBounds_toArray, List.set_cons_zero, List.set_cons_succ]
      have hF10 := hF9.below hb10
      have hO10 : OwnI w10 wR.heap.size v5 R.ws := ownI_lower ho hB9.size
      have hne : ∀ k, v5.ownBlock = some k → k ≠ wD.heap.size := fun k hk e => by
        have h1 := ownI_lows ho k hk
        have h2 := hF9.lt
        omega
      clear hb10 ho
      refine takeY 8 (i := 5) (v := ?vx12) rfl rfl (by kernel_rfl) (by kernel_rfl) (by kernel_rfl) (fun _ _ _ h => h) (by kernel_rfl) ?yx12 hS10 ?_
      case yx12 =>
        intro w' hw'; (try dsimp only at hw'); obtain q1 := hw'; go_simp; try with_reducible rfl
      simp only [Act.put, List.setIfInBounds_toArray, List.set_cons_zero, List.set_cons_succ]
      refine takeY 14 (i := 6) (v := ?vx13) rfl rfl (by kernel_rfl) (by kernel_rfl) (by kernel_rfl) (fun _ _ _ h => h) (by kernel_rfl) ?yx13 hS10 ?_
      case yx13 =>
        intro w' hw'; (try dsimp only at hw'); obtain q1 := hw'; go_simp; try with_reducible rfl
      simp only [Act.put, List.setIfInBounds_toArray, List.set_cons_zero, List.set_cons_succ]
      refine takeY 15 (i := 7) (v := ?vx14) rfl rfl (by kernel_rfl) (by kernel_rfl) (by kernel_rfl) (fun _ _ _ h => h) (by kernel_rfl) ?yx14 hS10 ?_
      case yx14 =>
        intro w' hw'; (try dsimp only at hw'); obtain q1 := hw'; go_simp; try with_reducible rfl
      simp only [Act.put, List.setIfInBounds_toArray, List.set_cons_zero, List.set_cons_succ]
      obtain ⟨c0, c1, z0, z1⟩ := hF10.cells
      refine wpAnyH_ready (rs := [9]) (by kernel_rfl) (by simp) ?_
      refine (AllReadyH.cons rfl (fun K hK => ?_) AllReadyH.nil)
      go_simp
      refine hK.out _ _ (((hB10.setCell (p := ⟨wD.heap.size, 0, none⟩) hghF _).setCell (p := ⟨wD.heap.size, 1, none⟩) hghF _).cell (p := ⟨g1, 0, none⟩) hbR |>.trans f1) (fun hS11 => ?_)
      clear hK K
      try simp only [Act.put, List.setIfInBounds_toArray, List.set_cons_zero, List.set_cons_succ]
      refine takeY 7 (i := 10) (v := ?vx15) rfl rfl (by kernel_rfl) (by kernel_rfl) (by kernel_rfl) (fun _ _ _ h => h) (by kernel_rfl) ?yx15 hS11 ?_
      case yx15 =>
        intro w' hw'; (try dsimp only at hw'); obtain q1 := hw'; go_simp; try with_reducible rfl
      simp only [Act.put, List.setIfInBounds_toArray, List.set_cons_zero, List.set_cons_succ]
      refine wpAnyH_done (by kernel_rfl) ?_ _
      go_wp2
      go_meet
      exact ⟨wD.heap.size, v5, rfl, rfl, hF10.set _ _, ownI_lower (ownI_blocks hO10 fun k hk => by rw [heap_setCell_other _ _ _ _ (hne k hk), heap_setCell_other _ _ _ _ (hne k hk)]) hlo, below_on HBR.out ((hB10.setCell (p := ⟨wD.heap.size, 0, none⟩) hghF _).setCell (p := ⟨wD.heap.size, 1, none⟩) hghF _)⟩
  case rest =>
  obtain ⟨g, v, rfl, rfl, hfr, hov, hb9⟩ := hcut
  rename World => w9
  have HB9 := Lib.hid hb9
  obtain ⟨l2, k2⟩ := H2.out.below hb9
  obtain ⟨l3, k3⟩ := H3.out.below hb9
  obtain ⟨k0, k1, -, -⟩ := hfr.cells
  clear hfr hov hb9 f1 hbR HWi HGr HIn
  go_wp2_with fail
  refine (HLess.out _).mono ?_
  rintro e w10 ⟨rfl, hb10⟩
  have HB10 := Lib.hid (below_on HB9.out hb10)
  clear hb10
  go_wp2
  go_ret
  exact ⟨rfl, HB10.out⟩
end Go.Proofs.Ytjjlhiaghjipcaa.num
namespace Go.Proofs.Ytjjlhiaghjipcaa.num
set_option maxRecDepth 20000
open Go.RowKit
set_option linter.unusedVariables false
set_option linter.unusedSimpArgs false

theorem row_ownS {w : World} {B b n : Nat} {l : List Int} (h : IntRow w b l) (hn : l.length = n) (hB : B ≤ b) (hm : n ≤ 1048576) : OwnI w B (.slice (some ⟨b, 0, none⟩) n n) l :=
  ownI_of_row (f := fun i => .int .i64 (l.getD i 0)) hB hn (Nat.le_refl _) (by unfold maxLen; omega) (by rw [← hn]; exact h) fun j hj => by
    rw [List.getElem?_map, List.getElem?_eq_getElem (by omega), List.getD_eq_getElem?_getD, List.getElem?_eq_getElem (by omega)]; rfl
/-- The first of the sorted sets that is small enough is the least. -/
theorem least_first {P : List Int → Prop} {L l : List (List Int)} (hp : l.Perm L) (hs : l.Pairwise (fun a b => cmpL a b ≤ 0)) {k : Nat} {s : List Int} (hk : l[k]? = some s) (h1 : P s) (h0 : ∀ j, j < k → ∀ t, l[j]? = some t → ¬ P t) : LeastS P L s := by
  refine ⟨hp.mem_iff.1 (List.mem_of_getElem? hk), h1, fun t ht hPt => ?_⟩
  obtain ⟨j, hj, e⟩ := List.getElem_of_mem (hp.mem_iff.2 ht)
  have hj' : l[j]? = some t := by rw [List.getElem?_eq_getElem hj, e]
  obtain ⟨hk', ek⟩ := List.getElem?_eq_some_iff.1 hk
  rw [ltL_false]
  rcases Nat.lt_trichotomy j k with h | h | h
  · exact absurd hPt (h0 j h t hj')
  · subst h
    have : s = t := by rw [← ek, ← e]
    subst this
    rw [cmpL_self]; decide
  · have := (List.pairwise_iff_getElem.1 hs) k j hk' hj h
    rwa [ek, e] at this
set_option maxRecDepth 20000 in
set_option maxHeartbeats 1000000 in
/-- setsOf with its sort. -/
theorem iSets (w : World) (A : Option Addr) (n c : Nat) (xs : List Int) (hi : Ints w w.heap.size A n xs) (hn : n ≤ 8) (hnc : n ≤ c) (hcm : c ≤ maxLen) :
    Calls Try.prog 60 #[.slice A n c] w fun e w' => (∃ g m c' rows, e = .returned (.slice (some ⟨g, 0, none⟩) m c') ∧ OwnR w' w.heap.size (.slice (some ⟨g, 0, none⟩) m c') rows ∧ (xsR rows).Perm (subs xs) ∧ (xsR rows).Pairwise (fun a b => cmpL a b ≤ 0)) ∧ Below w.heap.size w w' := by
  refine iSetsOf w A n c xs hi hn hnc hcm fun W g m c' rows hW hown hx => ?_
  have hxl := hi.1
  have hl : rows.length = (subs xs).length := by rw [← hx]; simp [xsR]
  have hs := subs_small (l := xs) (by omega)
  have hm : rows.length = m := (hown.r.read irC_len).len
  refine (iSortR W w.heap.size g m c' rows hW.size hown (fun e => ?_) (by omega) (fun x hxm => ?_) (enters_of Try.func91 (by kernel_rfl) rfl)).mono ?_
  · have : xs ∈ subs xs := subs_all xs
    rw [← hx, e] at this
    simp [xsR] at this
  · have : x.xs ∈ subs xs := by rw [← hx]; exact List.mem_map_of_mem hxm
    have := subs_each this
    omega
  · rintro e w' ⟨rfl, rows', ho, hp, hso, hb⟩
    refine ⟨rfl, rows', ho, ?_, hso, hb⟩
    have := hp.map IR.xs
    rw [← hx]
    exact this
set_option maxRecDepth 20000 in
set_option maxHeartbeats 6400000 in
theorem iSmall (w : World) (B : Nat) (A : Option Addr) (n c : Nat) (its : List It) (hi : Items w B A n its) (hB : B ≤ w.heap.size) (hn : n ≤ 1048576) (num den : Int) (D : List Int) (ok : Bool) (hD : SmallP (its.map It.dat) num den D ok) :
    Calls Try.prog 22 #[.slice A n c, .int .i64 num, .int .i64 den] w fun e w' => (∃ v, e = .returned (.tuple #[v, .bool ok]) ∧ OwnI w' w.heap.size v D) ∧ Below w.heap.size w w' := by
  obtain ⟨qa, hqa⟩ := bool_of (AreP (its.map It.dat))
  obtain ⟨wR, hwR⟩ : ∃ wR, ((w.alloc (.cells #[.slice A n c] 24)).alloc (.cells #[.int .i64 num] 3)).alloc (.cells #[.int .i64 den] 3) = wR := ⟨_, rfl⟩
  have hbR : Below w.heap.size w wR := by rw [← hwR]; exact (((Below.refl _ w).alloc (Nat.le_refl _) _).alloc (by simp) _).alloc (by rw [World.size_alloc, World.size_alloc]; omega) _
  have HBR := Lib.hid hbR
  have HS1 : Hid (SlB wR w.heap.size (.slice A n c)) := Lib.hid (by rw [← hwR]; exact ((SlB.new w (.slice A n c) _).below ((Below.refl _ _).alloc (Nat.le_refl _) _)).below ((Below.refl _ _).alloc (Nat.le_refl _) _))
  have HS2 : Hid (SlB wR (w.heap.size + 1) (.int .i64 num)) := Lib.hid (by
    rw [← hwR]
    have h := (SlB.new (w.alloc (.cells #[.slice A n c] 24)) (.int .i64 num) 3)
    rw [World.size_alloc] at h
    exact h.below ((Below.refl _ _).alloc (Nat.le_refl _) _))
  have HS3 : Hid (SlB wR (w.heap.size + 2) (.int .i64 den)) := Lib.hid (by
    rw [← hwR]
    have h := (SlB.new ((w.alloc (.cells #[.slice A n c] 24)).alloc (.cells #[.int .i64 num] 3)) (.int .i64 den) 3)
    rw [World.size_alloc, World.size_alloc] at h
    exact h)
  have hiR := hi.below (hbR.mono hB)
  have hBR := Nat.le_trans hB hbR.size
  have HiR := Lib.hid hiR
  have HAr := Lib.hid (iAre wR B A n c its hiR hBR qa hqa)
  have HD := Lib.hid hD
  have HQ := Lib.hid hqa
  have hlen : (its.map It.dat).length = n := by rw [List.length_map]; exact hi.1
  have HLen := Lib.hid hlen
  have HNo : Hid (¬ Valid8 (its.map It.dat) num den → ok = false ∧ D = []) := Lib.hid fun h => hD.no h
  clear hi hiR hbR hD hqa hlen
  obtain ⟨l1, f1⟩ := HS1.out
  go_enter Try.func22, Try.ntmps22
  go_upto_region 1 with (fail)
  try rw [hwR]
  clear hwR
  go_wp2_with fail
  refine HAr.out.mono ?_
  rintro e w1 ⟨rfl, hb1⟩
  have HB1 := Lib.hid hb1
  have HB1w := Lib.hid (below_on HBR.out hb1)
  have HT1 := Lib.hid (HS1.out.below hb1)
  have HT2 := Lib.hid (HS2.out.below hb1)
  have HT3 := Lib.hid (HS3.out.below hb1)
  clear hb1 HAr l1 f1
  cases qa
  · obtain ⟨rfl, rfl⟩ := HNo.out (fun h => by have := HQ.out.2 h.1; cases this)
    go_wp2
    go_ret2
    exact ⟨⟨_, rfl, ownI_nil _ _⟩, HB1w.out⟩
  · obtain ⟨l1, f1⟩ := HT1.out
    obtain ⟨l2, f2⟩ := HT2.out
    obtain ⟨l3, f3⟩ := HT3.out
    by_cases h8 : n ≤ 8
    · have h8' : (n : Int) ≤ 8 := by omega
      by_cases hd1 : den < 1
      · obtain ⟨rfl, rfl⟩ := HNo.out (fun h => by have := h.2.2.1; omega)
        go_wp2
        go_ret2
        exact ⟨⟨_, rfl, ownI_nil _ _⟩, HB1w.out⟩
      · by_cases hd2 : 100 < den
        · obtain ⟨rfl, rfl⟩ := HNo.out (fun h => by have := h.2.2.2.1; omega)
          go_wp2
          go_ret2
          exact ⟨⟨_, rfl, ownI_nil _ _⟩, HB1w.out⟩
        · by_cases hn0 : num < 0
          · obtain ⟨rfl, rfl⟩ := HNo.out (fun h => by have := h.2.2.2.2.1; omega)
            go_wp2
            go_ret2
            exact ⟨⟨_, rfl, ownI_nil _ _⟩, HB1w.out⟩
          · by_cases hnd : den < num
            · obtain ⟨rfl, rfl⟩ := HNo.out (fun h => by have := h.2.2.2.2.2; omega)
              go_wp2
              go_ret2
              exact ⟨⟨_, rfl, ownI_nil _ _⟩, HB1w.out⟩
            · have HV : Hid (Valid8 (its.map It.dat) num den) := Lib.hid ⟨HQ.out.1 rfl, by rw [HLen.out]; exact h8, by omega, by omega, by omega, by omega⟩
              have HId := Lib.hid (iIds w1 B A n c its (HiR.out.below (HB1.out.mono hBR)) (Nat.le_trans hBR HB1.out.size) hn)
              go_wp2_with fail
              refine HId.out.mono ?_
              rintro e w2 ⟨rfl, hrow, hb2⟩
              have HI2 : Hid (Ints w2 w2.heap.size (some ⟨w1.heap.size, 0, none⟩) n (idL its)) := Lib.hid (ownI_at (row_ownS (B := 0) hrow (by rw [← HLen.out]; simp [idL]) (Nat.zero_le _) hn))
              have HB2 := Lib.hid (below_on HB1.out hb2)
              have HB2w := Lib.hid (below_on HB1w.out hb2)
              have HU1 := Lib.hid (HT1.out.below hb2)
              have HU2 := Lib.hid (HT2.out.below hb2)
              have HU3 := Lib.hid (HT3.out.below hb2)
              have HSe := Lib.hid (iSets w2 (some ⟨w1.heap.size, 0, none⟩) n n (idL its) HI2.out h8 (Nat.le_refl _) (by unfold maxLen; omega))
              clear hb2 HId hrow f1 f2 f3 l1 l2 l3
              go_wp2_with fail
              refine HSe.out.mono ?_
              rintro e w3 ⟨⟨g, m, c', rows, rfl, ho3, hp3, hs3⟩, hb3⟩
              have HO3 := Lib.hid ho3
              have HP3 := Lib.hid hp3
              have HSo3 := Lib.hid hs3
              have HB3 := Lib.hid (below_on HB2.out hb3)
              have HB3w := Lib.hid (below_on HB2w.out hb3)
              have HV1 := Lib.hid (HU1.out.below hb3)
              have HV2 := Lib.hid (HU2.out.below hb3)
              have HV3 := Lib.hid (HU3.out.below hb3)
              have hml : rows.length = m := (ho3.r.read irC_len).len
              have hm : m ≤ 256 := by
                have h1 := hp3.length_eq
                have h2 := subs_small (l := idL its) (by have := HI2.out.1; omega)
                simp only [xsR, List.length_map] at h1
                omega
              obtain ⟨hold, hh⟩ : ∃ hold : IR → Bool, ∀ u, hold u = true ↔ okS (its.map It.dat) num den u.xs := ⟨fun u => @decide _ (Classical.propDecidable (okS (its.map It.dat) num den u.xs)), fun u => @decide_eq_true_iff _ (Classical.propDecidable _)⟩
              have HH := Lib.hid hh
              have HIx := Lib.hid (idxRows w3 (some ⟨g, 0, none⟩) m c' rows (ho3.r.read irC_len) (by omega) 63 #[.pointer (some ⟨w.heap.size, 0, none⟩), .pointer (some ⟨w.heap.size + 1, 0, none⟩), .pointer (some ⟨w.heap.size + 2, 0, none⟩)] (enters_of Try.func63 (by kernel_rfl) rfl) hold
                (fun W hW u hu => by
                  obtain ⟨j, hj, eu⟩ := List.getElem_of_mem hu
                  have hO := (HO3.out.below hW).x j u (by rw [List.getElem?_eq_getElem hj, eu])
                  have hIu := ownI_at hO
                  have hsz : u.n ≤ 1048576 := by
                    have h1 := subs_each (HP3.out.mem_iff.1 (List.mem_map_of_mem hu : u.xs ∈ xsR rows))
                    have h2 := HI2.out.1
                    have h3 := hIu.1
                    omega
                  have hbW := below_on HB3.out hW
                  exact small_c W B A n c its (HiR.out.below (hbW.mono hBR)) (Nat.le_trans hBR hbW.size) hn u hIu hsz w.heap.size (w.heap.size + 1) (w.heap.size + 2) num den (HV1.out.below hW) (HV2.out.below hW) (HV3.out.below hW) ⟨by show 0 ≤ num; omega, by show num ≤ 100; omega, by show 0 ≤ den; omega, by show den ≤ 100; omega⟩ (hold u) (hh u)))
              clear ho3 hp3 hs3 hb3 hh HSe
              go_wp2_with fail
              refine HIx.out.mono ?_
              rintro e w4 ⟨hr, hb4⟩
              have HB4w := Lib.hid (below_on HB3w.out hb4)
              rcases hr with ⟨rfl, hall⟩ | ⟨k, x, hk, rfl, hat, hx, hno⟩
              · exfalso
                have hmem : idsA (its.map It.dat) ∈ xsR rows := HP3.out.mem_iff.2 (by have e : idsA (its.map It.dat) = idL its := by simp [idsA, idL, It.dat]
                                                                                      rw [e]; exact subs_all _)
                obtain ⟨u, hu, e⟩ := List.mem_map.1 hmem
                have h1 := hall u hu
                have h2 := (HH.out u).2 (by rw [e]; exact okS_all HV.out.2.2.2.2.1)
                rw [h1] at h2; cases h2
              · have HO4 := Lib.hid (HO3.out.below hb4)
                have hLe : LeastS (okS (its.map It.dat) num den) (subs (idsA (its.map It.dat))) x.xs := by
                  have e : idsA (its.map It.dat) = idL its := by simp [idsA, idL, It.dat]
                  rw [e]
                  refine least_first HP3.out HSo3.out (k := k) (by unfold xsR; rw [List.getElem?_map, hat]; rfl) ((HH.out x).1 hx) fun j hj t ht hPt => ?_
                  unfold xsR at ht
                  rw [List.getElem?_map] at ht
                  obtain ⟨u, hu, rfl⟩ := Option.map_eq_some_iff.1 ht
                  have h1 := hno u (mem_of_at (k := j) (by rw [List.getElem?_take_of_lt hj]; exact hu))
                  have h2 := (HH.out u).2 hPt
                  rw [h1] at h2; cases h2
                obtain ⟨rfl, rfl⟩ := HD.out.yes HV.out hLe
                have HX4 : Hid (OwnI w4 w.heap.size x.val x.xs) := Lib.hid (ownI_lower (HO4.out.x k x hat) HB2w.out.size)
                obtain ⟨b, off, x2, hA, hb, hat2, hd2⟩ := ir_at (HO4.out.r.read irC_len) hk
                injection hA with hA
                injection hA with hA1 hA2
                subst hA1 hA2
                obtain rfl : x = x2 := by rw [hat] at hat2; exact Option.some.inj hat2
                rw [Nat.zero_add] at hd2
                have hk' : (k : Int) < (m : Int) := by omega
                clear hat hat2 hno hLe hb4
                go_wp2
                go_ret2
                exact ⟨⟨_, rfl, HX4.out⟩, HB4w.out⟩
    · have h8' : (8 : Int) < (n : Int) := by omega
      obtain ⟨rfl, rfl⟩ := HNo.out (fun h => by have := h.2.1; rw [HLen.out] at this; omega)
      go_wp2
      go_ret2
      exact ⟨⟨_, rfl, ownI_nil _ _⟩, HB1w.out⟩
end Go.Proofs.Ytjjlhiaghjipcaa.num
