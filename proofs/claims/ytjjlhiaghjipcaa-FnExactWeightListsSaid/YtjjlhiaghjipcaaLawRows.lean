/-
  The laws' eq, mark and held on slices of slices of ints.
-/
import Derived.BigQuiet
import Derived.Test.YtjjlhiaghjipcaaRowsI
import Derived.Test.YtjjlhiaghjipcaaLawInts
namespace Go.Proofs.Ytjjlhiaghjipcaa.num
set_option maxRecDepth 20000
open Go.RowKit
set_option linter.unusedVariables false
set_option linter.unusedSimpArgs false

theorem quiet_of {P : Program} {f : FuncId} {args : Array Value} {w : World} {m n : Nat} {v : Value} (h : Calls P f args (w.drewN (m + n)) fun e w' => e = .returned v ∧ ∃ k, w' = (w.drewN (m + n)).drewN k) : Calls P f args (w.drewN (m + n)) fun e w'' => e = .returned v ∧ ∃ n', w'' = w.drewN (m + n') :=
  h.mono fun _ _ ⟨he, k, hk⟩ => ⟨he, n + k, by rw [hk, World.drewN_drewN, Nat.add_assoc]⟩
set_option maxRecDepth 20000 in
set_option maxHeartbeats 1600000 in
theorem eqRows (w : World) (B B' : Nat) (A A' : Option Addr) (n c c' : Nat) (l l' : List IR) (h1 : RowsV w B A n l) (h2 : RowsV w B' A' n l') (he : xsR l = xsR l') (hn : n ≤ 1048576) (hs : ∀ x ∈ l, x.xs.length ≤ 1048576) :
    Calls Try.prog 30 #[.slice A n c, .slice A' n c'] w fun e w' => e = .returned (.bool true) ∧ Below w.heap.size w w' := by
  have H1 := Lib.hid h1
  have H2 := Lib.hid h2
  have HE := Lib.hid he
  have HSm := Lib.hid hs
  clear h1 h2 he hs
  go_enter Try.func30, Try.ntmps30
  go_wp2
  go_loopw [5] (fun i wr => ∃ k : Nat, k ≤ n ∧ i = .int .i64 k ∧ ∃ m, wr = w.drewN m) (fun i _ => n - (intOf i).toNat)
  case atStart => exact ⟨0, Nat.zero_le _, rfl, 0, rfl⟩
  case round =>
    obtain ⟨k, hk, rfl, m, rfl⟩ := hrel
    by_cases hlt : k < n
    · obtain ⟨b1, o1, x, rfl, hb1, hat1, hc1⟩ := ir_at H1.out.r hlt
      obtain ⟨b2, o2, y, rfl, hb2, hat2, hc2⟩ := ir_at H2.out.r hlt
      have hlt' : (k : Int) < (n : Int) := by omega
      have hxy : x.xs = y.xs := by
        have h := congrArg (fun L : List (List Int) => L[k]?) HE.out
        simp only [xsR, List.getElem?_map, hat1, hat2, Option.map_some, Option.some.injEq] at h
        exact h
      have HEq : Hid (∀ j, Calls Try.prog 37 #[.slice x.A x.n x.c, .slice y.A y.n y.c] (w.drewN j) fun e w' => e = .returned (.bool true) ∧ ∃ q, w' = (w.drewN j).drewN q) := Lib.hid fun j => by
        have i1 := (ownI_at (H1.out.x k x hat1)).below (below_drewN (Below.refl w.heap.size w) j)
        have i2 := (ownI_at (H2.out.x k y hat2)).below (below_drewN (Below.refl w.heap.size w) j)
        exact eqIntsW (w.drewN j) _ _ _ _ _ _ _ _ _ i1 i2 (by have h3 := i1.1; have h4 := HSm.out x (mem_of_at hat1); omega) true (by simp [hxy])
      clear hat1 hat2 hxy
      go_wp2
      go_quiet ((go_at_call 37; exact quiet_of (HEq.out _)))
      go_wp2
      go_roundw
      case rel => exact ⟨k + 1, by omega, by go_num, _, rfl⟩
      case measure => simp [intOf]; omega
    · obtain rfl : k = n := by omega
      go_wp2
      go_ret
      exact ⟨rfl, below_drewN (Below.refl _ _) _⟩
def mkR (k : Nat) (x : IR) : IR := ⟨x.A, x.n, x.c, marks k x.xs.length⟩
def cntR1 (x : IR) : Nat := x.xs.length
theorem RowsV.put {w w' : World} {B : Nat} {A : Option Addr} {n k m : Nat} {l : List IR} {x : IR} (h : RowsV w B A n l) (hk : l[k]? = some x) (ho : OwnI w' B x.val (marks m x.xs.length)) (hv : OnlyV x.val w w') : RowsV w' B A n (l.set k (mkR m x)) := by
  have hlt := (List.getElem?_eq_some_iff.1 hk).1
  have hget : ∀ (i : Nat) (z : IR), (l.set k (mkR m x))[i]? = some z → (i = k ∧ z = mkR m x) ∨ (i ≠ k ∧ l[i]? = some z) := fun i z hz => by
    by_cases e : i = k
    · subst e
      rw [List.getElem?_set_self hlt] at hz
      exact .inl ⟨rfl, (Option.some.inj hz).symm⟩
    · rw [List.getElem?_set_ne (fun e' => e e'.symm)] at hz
      exact .inr ⟨e, hz⟩
  have hcell : ∀ (i : Nat) (z : IR), (l.set k (mkR m x))[i]? = some z → ∃ y, l[i]? = some y ∧ irC z = irC y ∧ z.val = y.val := fun i z hz => by
    rcases hget i z hz with ⟨rfl, rfl⟩ | ⟨_, hz⟩
    · exact ⟨x, hk, rfl, rfl⟩
    · exact ⟨z, hz, rfl, rfl⟩
  refine ⟨⟨by rw [List.length_set]; exact h.r.len, fun i z hz => ?_⟩, h.o, fun i z hz => ?_, fun i z b hz hb p hp => ?_, fun i j y z b hij hy hz hb => ?_⟩
  · obtain ⟨y, hy, e1, e2⟩ := hcell i z hz
    obtain ⟨b, off, hA, hb, hc⟩ := h.r.at' i y hy
    refine ⟨b, off, hA, by rw [hv.size]; exact hb, fun j v hj => ?_⟩
    rw [e1] at hj
    refine (World.cell?_of_block (a := ⟨b, off + i * 1 + j, none⟩) (hv.block b fun e => ?_)).trans (hc j v hj)
    exact h.a k x b hk e _ hA rfl
  · rcases hget i z hz with ⟨rfl, rfl⟩ | ⟨hne, hz⟩
    · exact ho
    · refine ownI_blocks (h.x i z hz) fun b hb => hv.block b fun e => ?_
      rcases Nat.lt_or_gt_of_ne hne with q | q
      · exact h.d i k z x b q hz hk hb e
      · exact h.d k i x z b q hk hz e hb
  · obtain ⟨y, hy, e1, e2⟩ := hcell i z hz
    exact h.a i y b hy (e2 ▸ hb) p hp
  · obtain ⟨y', hy', e1, e2⟩ := hcell i y hy
    obtain ⟨z', hz', e3, e4⟩ := hcell j z hz
    rw [e4]
    exact h.d i j y' z' b hij hy' hz' (e2 ▸ hb)
/-- A block of one of the rows. -/
def hasR (l : List IR) (b : Nat) : Prop := ∃ x ∈ l, x.val.ownBlock = some b
set_option maxRecDepth 20000 in
set_option maxHeartbeats 1600000 in
theorem markRows (w : World) (B : Nat) (A : Option Addr) (n c : Nat) (l : List IR) (h : RowsV w B A n l) (hn : n ≤ 1000) (hs : ∀ x ∈ l, x.xs.length ≤ 1000) (k0 : Nat) (hk0 : k0 ≤ 1000) :
    Calls Try.prog 31 #[.slice A n c, .int .i64 k0] w fun e w' => e = .returned (.int .i64 ((k0 + cntG cntR1 l : Nat) : Int)) ∧ RowsV w' B A n (markG mkR cntR1 k0 l) ∧ OnlyS (hasR l) w w' := by
  have HX := Lib.hid h
  have HSm := Lib.hid hs
  have hl : l.length = n := h.r.len
  have HLe : Hid (∀ k, k ≤ n → cntG cntR1 (l.take k) ≤ 1000 * 1000) := Lib.hid fun k hk => by
    have h1 := cntG_le (cnt := cntR1) (M := 1000) (l := l.take k) (fun x hx => hs x (List.mem_of_mem_take hx))
    have h2 : (l.take k).length ≤ 1000 := by rw [List.length_take]; omega
    have h3 := Nat.mul_le_mul_right 1000 h2
    omega
  clear h hs
  go_enter Try.func31, Try.ntmps31
  go_wp2
  go_loopw [1, 5] (fun m i wr => ∃ k : Nat, k ≤ n ∧ i = .int .i64 k ∧ m = .int .i64 ((k0 + cntG cntR1 (l.take k) : Nat) : Int) ∧ RowsV wr B A n (markG mkR cntR1 k0 (l.take k) ++ l.drop k) ∧ OnlyS (hasR l) w wr) (fun _ i _ => n - (intOf i).toNat)
  case atStart => exact ⟨0, Nat.zero_le _, rfl, by simp [cntG], by simpa [markG] using HX.out, OnlyS.refl _ _⟩
  case round =>
    obtain ⟨k, hk, rfl, rfl, hv, hon⟩ := hrel
    have HV := Lib.hid hv
    have HO := Lib.hid hon
    clear hv hon
    by_cases hlt : k < n
    · obtain ⟨x, hx⟩ : ∃ x, l[k]? = some x := ⟨_, List.getElem?_eq_getElem (by omega)⟩
      obtain ⟨hs1, hs2⟩ := markG_step (mk := mkR) (cnt := cntR1) (k0 := k0) hx
      obtain ⟨b, off, y, rfl, hb, hat, hc⟩ := ir_at HV.out.r hlt
      obtain rfl : x = y := Option.some.inj (hs1.symm.trans hat)
      have hlt' : (k : Int) < (n : Int) := by omega
      have hc2 := HLe.out k hk
      have h1000 := HSm.out x (mem_of_at hx)
      obtain ⟨M, hM⟩ : ∃ M, k0 + cntG cntR1 (l.take k) = M := ⟨_, rfl⟩
      have hM2 : k0 + cntG cntR1 (l.take (k + 1)) = M + x.xs.length := by rw [take_at hx, cntG_snoc, ← Nat.add_assoc, hM]; rfl
      rw [hM] at hs2 ⊢
      have HMk := Lib.hid (markI' wr B x.val x.xs (HV.out.x k x hat) (by omega) ((M : Nat) : Int) M rfl (by omega))
      have HS2 := Lib.hid hs2
      have HS1 := Lib.hid hs1
      have HX1 := Lib.hid hx
      have HM2 := Lib.hid hM2
      clear hs1 hs2 hat hx hM2
      go_wp2_with fail
      refine HMk.out.mono ?_
      rintro e w2 ⟨rfl, ho, hov⟩
      have HV2 : Hid (RowsV w2 B (some ⟨b, off, none⟩) n (markG mkR cntR1 k0 (l.take (k + 1)) ++ l.drop (k + 1))) := Lib.hid (by rw [← HS2.out]; exact HV.out.put HS1.out ho hov)
      have HO2 : Hid (OnlyS (hasR l) w w2) := Lib.hid (HO.out.trans (hov.s fun q hq => ⟨x, mem_of_at HX1.out, hq⟩))
      clear ho hov HMk hc
      go_wp2
      go_roundw
      case rel => exact ⟨k + 1, by omega, by go_num, by rw [HM2.out]; first | rfl | simp, HV2.out, HO2.out⟩
      case measure => simp [intOf]; omega
    · obtain rfl : k = n := by omega
      have e1 : l.take k = l := take_all hl
      have e2 : l.drop k = [] := List.drop_of_length_le (by omega)
      have hv := HV.out
      rw [e1, e2, List.append_nil] at hv
      have HV2 := Lib.hid hv
      have HE1 := Lib.hid e1
      clear hv e1 e2
      go_wp2
      go_ret
      exact ⟨by rw [HE1.out]; rfl, HV2.out, HO.out⟩
set_option maxRecDepth 20000 in
set_option maxHeartbeats 1600000 in
theorem heldRows (w : World) (B : Nat) (A : Option Addr) (n c : Nat) (l : List IR) (k0 : Nat) (h : RowsV w B A n (markG mkR cntR1 k0 l)) (hn : n ≤ 1000) (hs : ∀ x ∈ l, x.xs.length ≤ 1000) (hk0 : k0 ≤ 1000) :
    Calls Try.prog 32 #[.slice A n c, .int .i64 k0] w fun e w' => e = .returned (.int .i64 ((k0 + cntG cntR1 l : Nat) : Int)) ∧ w = w' := by
  have HX := Lib.hid h
  have HSm := Lib.hid hs
  have hl : l.length = n := by have h1 := h.r.len; rwa [markG_len] at h1
  have HLe : Hid (∀ k, k ≤ n → cntG cntR1 (l.take k) ≤ 1000 * 1000) := Lib.hid fun k hk => by
    have h1 := cntG_le (cnt := cntR1) (M := 1000) (l := l.take k) (fun x hx => hs x (List.mem_of_mem_take hx))
    have h2 : (l.take k).length ≤ 1000 := by rw [List.length_take]; omega
    have h3 := Nat.mul_le_mul_right 1000 h2
    omega
  clear h hs
  go_enter Try.func32, Try.ntmps32
  go_wp2
  go_loopw [1, 5] (fun m i wr => ∃ k : Nat, k ≤ n ∧ i = .int .i64 k ∧ m = .int .i64 ((k0 + cntG cntR1 (l.take k) : Nat) : Int) ∧ w = wr) (fun _ i _ => n - (intOf i).toNat)
  case atStart => exact ⟨0, Nat.zero_le _, rfl, by simp [cntG], rfl⟩
  case round =>
    obtain ⟨k, hk, rfl, rfl, rfl⟩ := hrel
    by_cases hlt : k < n
    · obtain ⟨x, hx⟩ : ∃ x, l[k]? = some x := ⟨_, List.getElem?_eq_getElem (by omega)⟩
      have hm := markG_at (mk := mkR) (cnt := cntR1) l k0 k x hx
      obtain ⟨b, off, y, rfl, hb, hat, hc⟩ := ir_at HX.out.r hlt
      have hy : y = mkR (k0 + cntG cntR1 (l.take k)) x := Option.some.inj (hat.symm.trans hm)
      have hown := HX.out.x k y hat
      subst hy
      have hlt' : (k : Int) < (n : Int) := by omega
      have hc2 := HLe.out k hk
      have h1000 := HSm.out x (mem_of_at hx)
      obtain ⟨M, hM⟩ : ∃ M, k0 + cntG cntR1 (l.take k) = M := ⟨_, rfl⟩
      have hM2 : k0 + cntG cntR1 (l.take (k + 1)) = M + x.xs.length := by rw [take_at hx, cntG_snoc, ← Nat.add_assoc, hM]; rfl
      rw [hM] at hown hc ⊢
      have HMk := Lib.hid (heldI' w B x.val M x.xs.length hown (by omega) ((M : Nat) : Int) rfl (by omega))
      have hneg : ¬ ((M + x.xs.length : Nat) : Int) < 0 := by omega
      have HM2 := Lib.hid hM2
      clear hm hat hx hM2 hown hM
      go_wp2_with fail
      refine HMk.out.mono ?_
      rintro e w2 ⟨rfl, rfl⟩
      clear HMk hc
      go_wp2
      go_roundw
      case rel => exact ⟨k + 1, by omega, by go_num, by rw [HM2.out]; first | rfl | simp, by first | rfl | trivial⟩
      case measure => simp [intOf]; omega
    · obtain rfl : k = n := by omega
      have e1 : l.take k = l := take_all hl
      have HE1 := Lib.hid e1
      clear e1
      go_wp2
      go_ret
      exact ⟨by rw [HE1.out]; rfl, rfl⟩
theorem markRowsZ (w : World) (B : Nat) (A : Option Addr) (n c : Nat) (l : List IR) (h : RowsV w B A n l) (hn : n ≤ 1000) (hs : ∀ x ∈ l, x.xs.length ≤ 1000) (z : Int) (k0 : Nat) (hz : z = (k0 : Int)) (hk0 : k0 ≤ 1000) :
    Calls Try.prog 31 #[.slice A n c, .int .i64 z] w fun e w' => e = .returned (.int .i64 ((k0 + cntG cntR1 l : Nat) : Int)) ∧ RowsV w' B A n (markG mkR cntR1 k0 l) ∧ OnlyS (hasR l) w w' := by
  subst hz; exact markRows w B A n c l h hn hs k0 hk0
theorem heldRowsZ (w : World) (B : Nat) (A : Option Addr) (n c : Nat) (l : List IR) (z : Int) (k0 : Nat) (hz : z = (k0 : Int)) (h : RowsV w B A n (markG mkR cntR1 k0 l)) (hn : n ≤ 1000) (hs : ∀ x ∈ l, x.xs.length ≤ 1000) (hk0 : k0 ≤ 1000) :
    Calls Try.prog 32 #[.slice A n c, .int .i64 z] w fun e w' => e = .returned (.int .i64 ((k0 + cntG cntR1 l : Nat) : Int)) ∧ w = w' := by
  subst hz; exact heldRows w B A n c l k0 h hn hs hk0
/-- Rows that a call handed back: their memory from lo up to hi. -/
structure ResV (w : World) (lo hi : Nat) (A : Option Addr) (n : Nat) (l : List IR) : Prop where
  own : RowsV w lo A n l
  top : ∀ b, hasR l b → b < hi
  topo : ∀ p, A = some p → p.block < hi
  le : hi ≤ w.heap.size
theorem ResV.new {w : World} {lo n : Nat} {A : Option Addr} {l : List IR} (h : RowsV w lo A n l) (h0 : 0 < n) : ResV w lo w.heap.size A n l :=
  ⟨h, fun b ⟨x, hx, hb⟩ => by
    obtain ⟨k, hk, rfl⟩ := List.getElem_of_mem hx
    exact ownI_tops (h.x k _ (List.getElem?_eq_getElem hk)) b hb, fun p hp => by
    obtain ⟨b, off, x, hA, hb, -, -⟩ := ir_at h.r h0
    rw [hp] at hA
    rw [Option.some.inj hA]
    exact hb, Nat.le_refl _⟩
theorem ResV.step {w w' : World} {lo hi n : Nat} {A : Option Addr} {l : List IR} (h : ResV w lo hi A n l) (hb : Below w.heap.size w w') : ResV w' lo hi A n l := ⟨h.own.below hb, h.top, h.topo, Nat.le_trans h.le hb.size⟩
theorem ResV.only {S : Nat → Prop} {w w' : World} {lo hi n : Nat} {A : Option Addr} {l : List IR} (h : ResV w lo hi A n l) (ho : OnlyS S w w') (hs : ∀ b, S b → b < lo ∨ hi ≤ b) : ResV w' lo hi A n l := by
  refine ⟨⟨⟨h.own.r.len, fun k x hk => ?_⟩, h.own.o, fun k x hk => ?_, h.own.a, h.own.d⟩, h.top, h.topo, by rw [ho.size]; exact h.le⟩
  · obtain ⟨b, off, hA, hb, hc⟩ := h.own.r.at' k x hk
    refine ⟨b, off, hA, by rw [ho.size]; exact hb, fun j v hj => (World.cell?_of_block (a := ⟨b, off + k * 1 + j, none⟩) (ho.block b fun e => ?_)).trans (hc j v hj)⟩
    have h1 := h.own.o _ hA
    have h2 := h.topo _ hA
    have h3 : lo ≤ b := h1
    have h4 : b < hi := h2
    rcases hs b e with q | q <;> omega
  · refine ownI_blocks (h.own.x k x hk) fun b hb => ho.block b fun e => ?_
    have h1 := ownI_lows (h.own.x k x hk) b hb
    have h2 := h.top b ⟨x, mem_of_at hk, hb⟩
    rcases hs b e with q | q <;> omega
end Go.Proofs.Ytjjlhiaghjipcaa.num
