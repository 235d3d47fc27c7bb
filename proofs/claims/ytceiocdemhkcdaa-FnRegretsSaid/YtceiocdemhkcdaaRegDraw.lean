/-
  The model's draws for the law of regrets: contracts.
-/
import Derived.Test.YtceiocdemhkcdaaItemsDr
import Derived.Test.YtceiocdemhkcdaaAppI1
import Derived.Test.YtceiocdemhkcdaaCloneI
namespace Go.Proofs.Ytceiocdemhkcdaa.num
set_option maxRecDepth 20000
open Go.RowKit
set_option linter.unusedVariables false
set_option linter.unusedSimpArgs false

set_option maxRecDepth 20000 in
set_option maxHeartbeats 1600000 in
theorem reg_items (w : World) (g : Nat) (a : Option Addr) (len cap : Nat) (hlen : len ≤ 1048576) (hc : Cur w g a len cap) (B : Nat) (hB : B ≤ g) (hrow : Row w B a len) :
    Calls Try.prog 31 #[.pointer (some ⟨g, 0, none⟩)] w (OutIs 8 w g a len cap) := by
  have hgl := hc.lt
  have HR := Lib.hid hrow
  have HI : Hid (Calls Try.prog 71 #[.pointer (some ⟨g, 0, none⟩), .int .i64 5] w (OutIs 5 w g a len cap)) := Lib.hid (items_any 5 (by decide) w g a len cap hlen hc B hB hrow)
  clear hc hrow
  go_enter Try.func31, Try.ntmps31
  go_wp2_with fail
  refine HI.out.mono ?_
  rintro e w1 ⟨v, its, rfl, ho, l1, hc1, hg1⟩
  have HO := Lib.hid ho
  have HC1 := Lib.hid hc1
  have HG1 := Lib.hid hg1
  have hs1 : w.heap.size ≤ w1.heap.size := hg1.size
  clear ho hc1 hg1 HI
  go_wp2_with fail
  refine (once_any 14 (by omega) _ g a len cap hlen HC1.out B hB (HR.out.below (grown_below HG1.out hB (by omega)))).mono ?_
  rintro e w2 ⟨q, rfl, hc2, hg2⟩
  have HC2 := Lib.hid hc2
  have HG2 := Lib.hid (grown_trans HG1.out hg2)
  have HO2 : Hid (DrI w2 w.heap.size v its) := Lib.hid (HO.out.blocks fun b h1 h2 => hg2.block b h2 (fun e => by have := Option.some.inj e; omega))
  have hs2 : w.heap.size ≤ w2.heap.size := HG2.out.size
  clear hc2 hg2
  cases q
  · have HF : Hid (OutIs 8 w g a len cap (.returned v) w2) := Lib.hid ⟨v, its, rfl, HO2.out, by omega, HC2.out, HG2.out⟩
    go_wp2
    go_ret
    exact HF.out
  · go_wp2_with fail
    refine (any_items _ g a len cap hlen HC2.out B hB (HR.out.below (grown_below HG2.out hB (by omega)))).mono ?_
    rintro e w3 ⟨v3, its3, rfl, ho3, l3, hc3, hg3⟩
    have HF : Hid (OutIs 8 w g a len cap (.returned v3) w3) := Lib.hid ⟨v3, its3, rfl, ⟨ho3.r.low hs2, fun t ht => ⟨ownI_lowD (ho3.x t ht).1 hs2, (ho3.x t ht).2⟩, ho3.a⟩, l3, hc3, grown_trans HG2.out hg3⟩
    clear ho3 hc3 hg3
    go_wp2
    go_ret
    exact HF.out
/-- What is drawn: items and a number. -/
def OutIi (P : Int → Prop) (w : World) (e : Ending) (w' : World) : Prop :=
  ∃ A n c its, ∃ x : Int, e = .returned (.tuple #[.slice A n c, .int .i64 x]) ∧ (Items w' w'.heap.size A n its ∧ (∀ t ∈ its, t.n ≤ 1048576) ∧ n ≤ c ∧ c ≤ maxLen ∧ n ≤ 8) ∧ P x ∧ Below w.heap.size w w'
set_option maxRecDepth 20000 in
set_option maxHeartbeats 1600000 in
theorem draw_greedy (w : World) (a : Option Addr) (len cap : Nat) (hlen : len ≤ 1048576) (hrow : Row w w.heap.size a len) :
    Calls Try.prog 19 #[.slice a len cap] w (OutIi (fun x => -1 ≤ x ∧ x ≤ 3) w) := by
  have HR := Lib.hid hrow
  clear hrow
  go_enter Try.func19, Try.ntmps19
  go_wp2_with fail
  refine (new_any w a len cap hlen w.heap.size HR.out).mono ?_
  rintro e w1 ⟨g, rfl, hgw, hc1, hb1⟩
  have HC1 := Lib.hid hc1
  have HB1 := Lib.hid hb1
  have hgl1 := hc1.lt
  clear hc1 hb1
  go_wp2_with fail
  refine (reg_items _ g a len cap hlen HC1.out w.heap.size hgw (HR.out.below HB1.out)).mono ?_
  rintro e w2 ⟨v, its, rfl, ho, l1, hc2, hg2⟩
  have HO2 := Lib.hid ho
  have HC2 := Lib.hid hc2
  have HB2 := Lib.hid (HB1.out.trans (grown_below hg2 hgw HB1.out.size))
  have hs2 : w1.heap.size ≤ w2.heap.size := hg2.size
  clear ho hc2 hg2
  go_wp2_with fail
  refine (below_any 5 (by omega) _ g a len cap hlen HC2.out w.heap.size hgw (HR.out.below HB2.out)).mono ?_
  rintro e w3 ⟨u, rfl, hu, hc3, hg3⟩
  obtain ⟨hu0, hu1⟩ := hu.2 (by omega)
  have HO3 : DrI w3 w1.heap.size v its := HO2.out.blocks fun b h1 h2 => hg3.block b h2 (fun e => by have := Option.some.inj e; omega)
  have HB3 := Lib.hid (HB2.out.trans (grown_below hg3 hgw HB2.out.size))
  obtain ⟨A, n, c, rfl, hI⟩ := HO3.read l1
  have HI := Lib.hid hI
  clear hu hc3 hg3 HO3 hI
  go_wp2
  go_ret2
  exact ⟨A, n, c, its, u - 1, rfl, HI.out, ⟨by omega, by omega⟩, HB3.out⟩
theorem numsP {P : Int → Prop} (w : World) (L : List Int) (hP : ∀ z ∈ L, P z) : ∀ k, k < L.length → ∃ z : Int, (w.alloc (.cells (L.map (Value.int .i64)).toArray 3)).cell? ⟨w.heap.size, k, none⟩ = some (.int .i64 z) ∧ P z := fun k hk => by
  refine ⟨L[k], ?_, hP _ (List.getElem_mem hk)⟩
  rw [World.cell?_alloc_at _ _ _ _ rfl]
  simp [hk]
/-- What is drawn: items and a fraction. -/
def OutIf (w : World) (e : Ending) (w' : World) : Prop :=
  ∃ A n c its, ∃ x y : Int, e = .returned (.tuple #[.slice A n c, .int .i64 x, .int .i64 y]) ∧ (Items w' w'.heap.size A n its ∧ (∀ t ∈ its, t.n ≤ 1048576) ∧ n ≤ c ∧ c ≤ maxLen ∧ n ≤ 8) ∧ (-1 ≤ x ∧ x ≤ 5) ∧ (0 ≤ y ∧ y ≤ 101) ∧ Below w.heap.size w w'
set_option maxRecDepth 20000 in
set_option maxHeartbeats 1600000 in
theorem draw_small (w : World) (a : Option Addr) (len cap : Nat) (hlen : len ≤ 1048576) (hrow : Row w w.heap.size a len) :
    Calls Try.prog 16 #[.slice a len cap] w (OutIf w) := by
  have HR := Lib.hid hrow
  clear hrow
  go_enter Try.func16, Try.ntmps16
  go_wp2_with fail
  refine (new_any w a len cap hlen w.heap.size HR.out).mono ?_
  rintro e w1 ⟨g, rfl, hgw, hc1, hb1⟩
  have HC1 := Lib.hid hc1
  have HB1 := Lib.hid hb1
  have hgl1 := hc1.lt
  clear hc1 hb1
  go_wp2_with fail
  refine (reg_items _ g a len cap hlen HC1.out w.heap.size hgw (HR.out.below HB1.out)).mono ?_
  rintro e w2 ⟨v, its, rfl, ho, l1, hc2, hg2⟩
  have HO2 := Lib.hid ho
  have HC2 := Lib.hid hc2
  have HB2 := Lib.hid (HB1.out.trans (grown_below hg2 hgw HB1.out.size))
  have hs2 : w1.heap.size ≤ w2.heap.size := hg2.size
  have hgl2 : g < w2.heap.size := by omega
  clear ho hc2 hg2
  have HP2 := Lib.hid (pick_p (fun z => -1 ≤ z ∧ z ≤ 5) w2.heap.size 5 (by decide) (by decide) (w2.alloc (.cells #[.int .i64 (-1), .int .i64 0, .int .i64 1, .int .i64 2, .int .i64 5] 3)) g a len cap hlen (HC2.out.kept (Below.heap_alloc _ _ _ hgl2)) w.heap.size hgw (HR.out.below (HB2.out.alloc HB2.out.size _)) (numsP w2 [-1, 0, 1, 2, 5] (by decide)) (by omega))
  go_wp2_with fail
  refine HP2.out.mono ?_
  rintro e w3 ⟨x, rfl, hx, hc3, hg3⟩
  have hg3 : w2.grownBy w3 (some g) := grown_trans (World.grownBy_alloc _ _ _) hg3
  have HC3 := Lib.hid hc3
  have HX := Lib.hid hx
  have HO3 : Hid (DrI w3 w1.heap.size v its) := Lib.hid (HO2.out.blocks fun b h1 h2 => hg3.block b h2 (fun e => by have := Option.some.inj e; omega))
  have HB3 := Lib.hid (HB2.out.trans (grown_below hg3 hgw HB2.out.size))
  have hs3 : w2.heap.size ≤ w3.heap.size := hg3.size
  have hgl3 : g < w3.heap.size := by omega
  clear hc3 hg3 hx HP2
  have HP3 := Lib.hid (pick_p (fun z => 0 ≤ z ∧ z ≤ 101) w3.heap.size 6 (by decide) (by decide) (w3.alloc (.cells #[.int .i64 0, .int .i64 1, .int .i64 2, .int .i64 4, .int .i64 10, .int .i64 101] 3)) g a len cap hlen (HC3.out.kept (Below.heap_alloc _ _ _ hgl3)) w.heap.size hgw (HR.out.below (HB3.out.alloc HB3.out.size _)) (numsP w3 [0, 1, 2, 4, 10, 101] (by decide)) (by omega))
  go_wp2_with fail
  refine HP3.out.mono ?_
  rintro e w4 ⟨y, rfl, hy, hc4, hg4⟩
  have hg4 : w3.grownBy w4 (some g) := grown_trans (World.grownBy_alloc _ _ _) hg4
  have HY := Lib.hid hy
  have HO4 : DrI w4 w1.heap.size v its := HO3.out.blocks fun b h1 h2 => hg4.block b h2 (fun e => by have := Option.some.inj e; omega)
  have HB4 := Lib.hid (HB3.out.trans (grown_below hg4 hgw HB3.out.size))
  obtain ⟨A, n, c, rfl, hI⟩ := HO4.read l1
  have HI := Lib.hid hI
  clear hc4 hg4 hy HO4 hI HP3
  go_wp2
  go_ret3
  exact ⟨A, n, c, its, x, y, rfl, HI.out, HX.out, HY.out, HB4.out⟩
def OutIds (w : World) (g : Nat) (a : Option Addr) (len cap : Nat) (e : Ending) (w' : World) : Prop :=
  ∃ v xs, e = .returned v ∧ OwnI w' w.heap.size v xs ∧ xs.length ≤ 9 ∧ Cur w' g a len cap ∧ w.grownBy w' (some g)
/-- What lies before a loop that draws and appends, and what is kept. -/
structure IdsSt (w : World) (g : Nat) (a : Option Addr) (len cap : Nat) (V : Value) (xs : List Int) (wr : World) : Prop where
  o : OwnI wr w.heap.size V xs
  c : Cur wr g a len cap
  g : w.grownBy wr (some g)
theorem IdsSt.drew {w : World} {g : Nat} {a : Option Addr} {len cap : Nat} {V : Value} {xs : List Int} {wr w' : World} (h : IdsSt w g a len cap V xs wr) (hgl : g < w.heap.size) (hc : Cur w' g a len cap) (hg : wr.grownBy w' (some g)) : IdsSt w g a len cap V xs w' :=
  ⟨ownI_blocks h.o fun k hk => hg.block k (ownI_tops h.o k hk) fun e => by have h1 := ownI_lows h.o k hk; have := Option.some.inj e; omega, hc, grown_trans h.g hg⟩
theorem IdsSt.app {w : World} {g : Nat} {a : Option Addr} {len cap : Nat} {V v' : Value} {xs ys : List Int} {wr w' : World} (h : IdsSt w g a len cap V xs wr) (hgl : g < w.heap.size) (ho : OwnI w' w.heap.size v' ys) (hg : wr.grownBy w' V.ownBlock) : IdsSt w g a len cap v' ys w' := by
  have hne : some g ≠ V.ownBlock := fun e => by have h1 := ownI_lows h.o g e.symm; omega
  refine ⟨ho, h.c.kept (hg.block g (Nat.lt_of_lt_of_le hgl h.g.size) hne), ?_⟩
  refine ⟨hg.os.trans h.g.os, hg.tape.trans h.g.tape, hg.output.trans h.g.output, Nat.le_trans h.g.size hg.size, fun k hk hv => ?_⟩
  have hkV : some k ≠ V.ownBlock := fun e => by have h1 := ownI_lows h.o k e.symm; omega
  exact (hg.block k (Nat.lt_of_lt_of_le hk h.g.size) hkV).trans (h.g.block k hk hv)
set_option maxRecDepth 20000 in
set_option maxHeartbeats 3200000 in
theorem ids_any (w : World) (g : Nat) (a : Option Addr) (len cap : Nat) (hlen : len ≤ 1048576) (hc : Cur w g a len cap) (B : Nat) (hB : B ≤ g) (hrow : Row w B a len) (B0 : Nat) (hgB : g < B0) (A : Option Addr) (n c : Nat) (its : List It) (hI : DrI w B0 (.slice A n c) its) (hn : n ≤ 8) :
    Calls Try.prog 32 #[.pointer (some ⟨g, 0, none⟩), .slice A n c] w (OutIds w g a len cap) := by
  have hgl := hc.lt
  have HR := Lib.hid hrow
  have HI := Lib.hid hI
  have H0 : Hid (IdsSt w g a len cap (.slice (some ⟨w.heap.size, 0, none⟩) 0 0) [] (w.alloc (.cells #[] 3))) := Lib.hid ⟨OwnI.empty w w.heap.size (Nat.le_refl _), hc.kept (Below.heap_alloc _ _ _ hgl), World.grownBy_alloc _ _ _⟩
  have HIn : Hid (∀ W, w.grownBy W (some g) → Items W W.heap.size A n its) := Lib.hid fun W hW => (DrI.items (hI.blocks (w' := W) fun b h1 h2 => hW.block b h2 fun e => by have := Option.some.inj e; omega)).1
  clear hc hrow hI
  go_enter Try.func32, Try.ntmps32
  go_wp2
  go_loopw [5, 6] (fun v iv wr => ∃ (i : Nat) (V : Value) (xs : List Int), i ≤ n ∧ iv = .int .i64 i ∧ V = v ∧ xs.length ≤ i ∧ IdsSt w g a len cap V xs wr) (fun _ iv _ => n - (intOf iv).toNat)
  case atStart => exact ⟨0, _, [], Nat.zero_le _, rfl, rfl, Nat.le_refl _, H0.out⟩
  case round =>
    obtain ⟨i, V, xs, hi, rfl, rfl, hl, hst⟩ := hrel
    obtain ⟨wr, rfl⟩ : ∃ w0, w0 = wr := ⟨_, rfl⟩
    have HS := Lib.hid hst
    have hsz : w.heap.size ≤ wr.heap.size := hst.g.size
    clear hst
    by_cases hlt : i < n
    · have hlt' : (i : Int) < (n : Int) := by omega
      go_wp2_with fail
      refine (once_any 2 (by omega) _ g a len cap hlen HS.out.c B hB (HR.out.below (grown_below HS.out.g hB (by omega)))).mono ?_
      rintro e w2 ⟨q, rfl, hc2, hg2⟩
      have HS2 := Lib.hid (HS.out.drew hgl hc2 hg2)
      have hsz2 : w.heap.size ≤ w2.heap.size := HS2.out.g.size
      clear hc2 hg2
      cases q
      · go_wp2
        go_roundw
        case rel => exact ⟨i + 1, V, xs, by omega, by go_num, rfl, by omega, HS2.out⟩
        case measure => simp [intOf]; omega
      · obtain ⟨b, off, x, hA, hb, hat, d0, d1, -⟩ := (HIn.out w2 HS2.out.g).at i hlt
        subst hA
        go_wp2_with (at_builtin; refine wp_appI1 w2 (by rfl) (.tmp 16) (.tmp 22) (by rfl) w.heap.size V xs (by rfl) HS2.out.o _ x.id (by rfl) 1 (by rfl) (by omega) hsz2 ?_)
        rintro v4 w3 ho4 hg4 hat4
        have HS3 := Lib.hid (HS2.out.app hgl ho4 hg4)
        clear ho4 hg4 hat4 d0 d1 hat
        go_wp2
        go_roundw
        case rel => exact ⟨i + 1, v4, xs ++ [x.id], by omega, by go_num, rfl, by simp; omega, HS3.out⟩
        case measure => simp [intOf]; omega
    · obtain rfl : i = n := by omega
      go_wp2_with fail
      refine (once_any 14 (by omega) _ g a len cap hlen HS.out.c B hB (HR.out.below (grown_below HS.out.g hB (by omega)))).mono ?_
      rintro e w2 ⟨q, rfl, hc2, hg2⟩
      have HS2 := Lib.hid (HS.out.drew hgl hc2 hg2)
      have hsz2 : w.heap.size ≤ w2.heap.size := HS2.out.g.size
      clear hc2 hg2
      cases q
      · go_wp2
        go_ret
        exact ⟨V, xs, rfl, HS2.out.o, by omega, HS2.out.c, HS2.out.g⟩
      · go_wp2_with fail
        refine (below_any 9 (by omega) _ g a len cap hlen HS2.out.c B hB (HR.out.below (grown_below HS2.out.g hB (by omega)))).mono ?_
        rintro e w3 ⟨u, rfl, hu, hc3, hg3⟩
        have HS3 := Lib.hid (HS2.out.drew hgl hc3 hg3)
        have hsz3 : w.heap.size ≤ w3.heap.size := HS3.out.g.size
        clear hc3 hg3 hu
        go_wp2_with (at_builtin; refine wp_appI1 w3 (by rfl) (.tmp 26) (.tmp 29) (by rfl) w.heap.size V xs (by rfl) HS3.out.o _ u (by rfl) 1 (by rfl) (by omega) hsz3 ?_)
        rintro v4 w4 ho4 hg4 hat4
        have HS4 := Lib.hid (HS3.out.app hgl ho4 hg4)
        clear ho4 hg4 hat4
        go_wp2
        go_ret
        exact ⟨v4, xs ++ [u], rfl, HS4.out.o, by simp; omega, HS4.out.c, HS4.out.g⟩
/-- What is drawn: items and numbers. -/
def OutIn (w : World) (e : Ending) (w' : World) : Prop :=
  ∃ A n c its A' n' c' xs, e = .returned (.tuple #[.slice A n c, .slice A' n' c']) ∧ (Items w' w'.heap.size A n its ∧ (∀ t ∈ its, t.n ≤ 1048576) ∧ n ≤ c ∧ c ≤ maxLen ∧ n ≤ 8) ∧ (Ints w' w'.heap.size A' n' xs ∧ n' ≤ c' ∧ c' ≤ maxLen ∧ n' ≤ 9) ∧ Below w.heap.size w w'
theorem ownI_cap {w : World} {B : Nat} {v : Value} {l : List Int} (h : OwnI w B v l) : ∃ A c, v = .slice A l.length c ∧ l.length ≤ c ∧ c ≤ maxLen := by
  obtain ⟨A, c, e, h1, h2⟩ := (ownI_G.1 h).shape
  exact ⟨A, c, e, h1, h2⟩
set_option maxRecDepth 20000 in
set_option maxHeartbeats 1600000 in
theorem draw_regret (w : World) (a : Option Addr) (len cap : Nat) (hlen : len ≤ 1048576) (hrow : Row w w.heap.size a len) :
    Calls Try.prog 6 #[.slice a len cap] w (OutIn w) := by
  have HR := Lib.hid hrow
  clear hrow
  go_enter Try.func6, Try.ntmps6
  go_wp2_with fail
  refine (new_any w a len cap hlen w.heap.size HR.out).mono ?_
  rintro e w1 ⟨g, rfl, hgw, hc1, hb1⟩
  have HC1 := Lib.hid hc1
  have HB1 := Lib.hid hb1
  have hgl1 := hc1.lt
  clear hc1 hb1
  go_wp2_with fail
  refine (reg_items _ g a len cap hlen HC1.out w.heap.size hgw (HR.out.below HB1.out)).mono ?_
  rintro e w2 ⟨v, its, rfl, ho, l1, hc2, hg2⟩
  obtain ⟨A, c, hv, hnc, hcm⟩ := ho.r.shape
  subst hv
  have HO2 := Lib.hid ho
  have HC2 := Lib.hid hc2
  have HB2 := Lib.hid (HB1.out.trans (grown_below hg2 hgw HB1.out.size))
  have hs2 : w1.heap.size ≤ w2.heap.size := hg2.size
  have HNc := Lib.hid (And.intro hnc hcm)
  clear ho hc2 hg2 hnc hcm
  go_wp2_with fail
  refine (ids_any _ g a len cap hlen HC2.out w.heap.size hgw (HR.out.below HB2.out) w1.heap.size hgl1 A its.length c its HO2.out l1).mono ?_
  rintro e w3 ⟨v3, xs, rfl, ho3, l3, hc3, hg3⟩
  obtain ⟨A3, c3, hv3, h1, h2⟩ := ownI_cap ho3
  subst hv3
  have HX := Lib.hid (And.intro (ownI_at ho3) (And.intro h1 h2))
  have HO3 : DrI w3 w1.heap.size (.slice A its.length c) its := HO2.out.blocks fun b h1 h2 => hg3.block b h2 (fun e => by have := Option.some.inj e; omega)
  have HI := Lib.hid (DrI.items HO3)
  have HB3 := Lib.hid (HB2.out.trans (grown_below hg3 hgw HB2.out.size))
  clear hc3 hg3 HO3 ho3 h1 h2
  go_wp2
  go_ret2
  exact ⟨A, its.length, c, its, A3, xs.length, c3, xs, rfl, ⟨HI.out.1, HI.out.2, HNc.out.1, HNc.out.2, l1⟩, ⟨HX.out.1, HX.out.2.1, HX.out.2.2, l3⟩, HB3.out⟩
end Go.Proofs.Ytceiocdemhkcdaa.num
