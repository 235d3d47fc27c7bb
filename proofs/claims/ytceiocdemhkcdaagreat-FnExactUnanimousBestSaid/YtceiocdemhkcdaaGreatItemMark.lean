/-
  The laws' own marks: markIntS, heldIntS, markItemS.
-/
import Derived.Test.YtceiocdemhkcdaaGreatItemEq
namespace Go.Proofs.YtceiocdemhkcdaaGreat.num
set_option maxRecDepth 20000
open Go.RowKit

/-- Every block but b, and every block from the end on, is as it was. -/
def marks (k : Nat) (n : Nat) : List Int := (List.range n).map fun j => ((k + j : Nat) : Int)
theorem marks_len (k n : Nat) : (marks k n).length = n := by simp [marks]
theorem marks_get {k n j : Nat} (h : j < n) : (marks k n).getD j 0 = ((k + j : Nat) : Int) := by
  rw [List.getD_eq_getElem?_getD]
  simp [marks, h]
/-- w' is w but for block b. -/
structure Only (b : Nat) (w w' : World) : Prop where
  os : w'.os = w.os
  tape : w'.tape = w.tape
  output : w'.output = w.output
  size : w'.heap.size = w.heap.size
  block : ∀ k, k ≠ b → w'.heap[k]? = w.heap[k]?
theorem Only.refl (b : Nat) (w : World) : Only b w w := ⟨rfl, rfl, rfl, rfl, fun _ _ => rfl⟩
theorem Only.set {b : Nat} {w w' : World} (h : Only b w w') (j : Nat) (v : Value) : Only b w (w'.setCell ⟨b, j, none⟩ v) :=
  ⟨h.os, h.tape, h.output, by simpa [World.setCell] using h.size, fun k hk => (Below.heap_setCell w' ⟨b, j, none⟩ v k hk).trans (h.block k hk)⟩
theorem Only.below {b B : Nat} {w w' : World} (h : Only b w w') (hB : B ≤ b) : Below B w w' :=
  ⟨h.os, h.tape, h.output, by rw [h.size]; exact Nat.le_refl _, fun k hk => h.block k (by omega)⟩

theorem markInts (w : World) (b n c : Nat) (xs : List Int) (hx : IntRow w b xs) (hl : xs.length = n) (hn : n ≤ 1048576) (k0 : Nat) (hk0 : k0 ≤ 4611686018427387904) :
    Calls Tryz.prog 44 #[.slice (some ⟨b, 0, none⟩) n c, .int .i64 k0] w fun e w' => e = .returned (.int .i64 ((k0 + n : Nat) : Int)) ∧ IntRow w' b (marks k0 n) ∧ Only b w w' := by
  have HX := Lib.hid hx
  have HL := Lib.hid hl
  clear hx hl
  go_enter Tryz.func44, Tryz.ntmps44
  go_wp2
  go_loopw [1, 5] (fun m i wr => ∃ k : Nat, k ≤ n ∧ i = .int .i64 k ∧ m = .int .i64 ((k0 + k : Nat) : Int) ∧ wr.rowIs b 3 n (fun j => if j < k then .int .i64 ((k0 + j : Nat) : Int) else .int .i64 (xs.getD j 0)) ∧ Only b w wr) (fun _ i _ => n - (intOf i).toNat)
  case atStart =>
    refine ⟨0, Nat.zero_le _, rfl, rfl, ?_, Only.refl _ _⟩
    have h := HX.out
    unfold IntRow at h
    rw [HL.out] at h
    simpa using h
  case round =>
    obtain ⟨k, hk, rfl, rfl, hrow, honly⟩ := hrel
    have HR := Lib.hid hrow
    have HO := Lib.hid honly
    by_cases hlt : k < n
    · have g1 : wr.cell? ⟨b, k, none⟩ = some (.int .i64 (xs.getD k 0)) := by rw [World.rowIs.cell hrow hlt, if_neg (by omega)]
      have g2 := World.rowIs.frozen hrow k
      obtain ⟨m, hm⟩ : ∃ m : Nat, m = k0 + k := ⟨_, rfl⟩
      rw [← hm]
      have hm1 : m ≤ 4700000000000000000 := by omega
      have HM := Lib.hid hm
      clear hrow honly hm
      go_wp2
      go_roundw
      case rel =>
        refine ⟨k + 1, by omega, by go_num, ?_, (World.rowIs.set HR.out k (.int .i64 m)).congr (fun j _ => ?_), HO.out.set _ _⟩
        · have := HM.out; congr 1; omega
        · by_cases h1 : j = k
          · subst h1; rw [if_pos rfl, if_pos (by omega), HM.out]
          · by_cases h2 : j < k
            · rw [if_neg h1, if_pos h2, if_pos (by omega)]
            · rw [if_neg h1, if_neg h2, if_neg (by omega)]
      case measure => simp [intOf]; omega
    · obtain rfl : k = n := by omega
      obtain ⟨m, hm⟩ : ∃ m : Nat, m = k0 + k := ⟨_, rfl⟩
      rw [← hm]
      clear hrow honly
      have HM := Lib.hid hm
      clear hm
      go_wp2
      go_ret
      refine ⟨by show Ending.returned (.int .i64 (m : Int)) = _; rw [HM.out], ?_, HO.out⟩
      unfold IntRow
      rw [marks_len]
      exact HR.out.congr (fun j hj => by rw [if_pos hj, marks_get hj])

theorem heldInts (w : World) (b n c : Nat) (k0 : Nat) (hx : IntRow w b (marks k0 n)) (hn : n ≤ 1048576) (hk0 : k0 ≤ 4611686018427387904) :
    Calls Tryz.prog 45 #[.slice (some ⟨b, 0, none⟩) n c, .int .i64 k0] w fun e w' => e = .returned (.int .i64 ((k0 + n : Nat) : Int)) ∧ w = w' := by
  have HX := Lib.hid hx
  clear hx
  go_enter Tryz.func45, Tryz.ntmps45
  go_wp2
  go_loopw [1, 5] (fun m i wr => ∃ k : Nat, k ≤ n ∧ i = .int .i64 k ∧ m = .int .i64 ((k0 + k : Nat) : Int) ∧ wr = w) (fun _ i _ => n - (intOf i).toNat)
  case atStart => exact ⟨0, Nat.zero_le _, rfl, rfl, rfl⟩
  case round =>
    obtain ⟨k, hk, rfl, rfl, rfl⟩ := hrel
    obtain ⟨m, hm⟩ : ∃ m : Nat, m = k0 + k := ⟨_, rfl⟩
    rw [← hm]
    have hm1 : m ≤ 4700000000000000000 := by omega
    have HM := Lib.hid hm
    by_cases hlt : k < n
    · have g1 : wr.cell? ⟨b, k, none⟩ = some (.int .i64 m) := by
        have h := World.rowIs.cell HX.out (by rw [marks_len]; exact hlt)
        rw [marks_get hlt] at h
        rw [h, hm]
      clear hm
      go_wp2
      go_roundw
      case rel => exact ⟨k + 1, by omega, by go_num, by have := HM.out; congr 1; omega, by first | rfl | trivial⟩
      case measure => simp [intOf]; omega
    · obtain rfl : k = n := by omega
      clear hm
      go_wp2
      go_ret
      exact ⟨by show Ending.returned (.int .i64 (m : Int)) = _; rw [HM.out], rfl⟩

/-- Below bx and from S on as it was. -/
structure Mid (bx S : Nat) (w w' : World) : Prop where
  os : w'.os = w.os
  tape : w'.tape = w.tape
  output : w'.output = w.output
  size : w'.heap.size = w.heap.size
  block : ∀ k, k < bx ∨ S ≤ k → w'.heap[k]? = w.heap[k]?
theorem Mid.refl (bx S : Nat) (w : World) : Mid bx S w w := ⟨rfl, rfl, rfl, rfl, fun _ _ => rfl⟩
theorem Mid.only {bx S b : Nat} {w w' w'' : World} (h : Mid bx S w w') (g : Only b w' w'') (h1 : bx ≤ b) (h2 : b < S) : Mid bx S w w'' :=
  ⟨g.os.trans h.os, g.tape.trans h.tape, g.output.trans h.output, g.size.trans h.size, fun k hk => (g.block k (by omega)).trans (h.block k hk)⟩
theorem Mid.below {bx S : Nat} {w w' : World} (h : Mid bx S w w') : Below bx w w' :=
  ⟨h.os, h.tape, h.output, by rw [h.size]; exact Nat.le_refl _, fun k hk => h.block k (.inl hk)⟩
/-- A row of ints behind a call that marked one. -/
def Slot (w : World) (bx S : Nat) (t : It) : Prop := ∃ bk ys, t.A = some ⟨bk, 0, none⟩ ∧ bx < bk ∧ bk < S ∧ ys.length = t.n ∧ IntRow w bk ys
theorem row_len {w : World} {b n m : Nat} {t s : TypeId} {f g : Nat → Value} (h : w.rowIs b t n f) (k : w.rowIs b s m g) : n = m := by
  obtain ⟨c, h1, h2, _⟩ := h
  obtain ⟨d, k1, k2, _⟩ := k
  rw [h1] at k1
  injection k1 with k1
  injection k1 with k1
  rw [← h2, ← k2, k1]
theorem Slot.only {w w' : World} {bx S b k0 n : Nat} {t : It} {xs : List Int} (h : Slot w bx S t) (h0 : IntRow w b xs) (hl : xs.length = n) (h1 : IntRow w' b (marks k0 n)) (g : Only b w w') : Slot w' bx S t := by
  obtain ⟨bk, ys, a1, a2, a3, a4, a5⟩ := h
  by_cases e : bk = b
  · subst e
    have := row_len a5 h0
    exact ⟨bk, marks k0 n, a1, a2, a3, by rw [marks_len]; omega, h1⟩
  · exact ⟨bk, ys, a1, a2, a3, a4, World.rowIs.of_block a5 (g.block bk e)⟩
theorem Slot.set {w : World} {bx S : Nat} {t : It} (h : Slot w bx S t) (j : Nat) (v : Value) : Slot (w.setCell ⟨bx, j, none⟩ v) bx S t := by
  obtain ⟨bk, ys, a1, a2, a3, a4, a5⟩ := h
  exact ⟨bk, ys, a1, a2, a3, a4, World.rowIs.setOther a5 (by show bk ≠ bx; omega) v⟩
/-- What stays of the row of items while it is marked. -/
def MarkRow (w : World) (bx n : Nat) (its : List It) : Prop := ∃ f, w.rowIs bx 36 (n * 2) f ∧ ∀ j t, its[j]? = some t → f (j * 2 + 1) = .slice t.A t.n t.c ∧ ∃ z, f (j * 2) = .int .i64 z
theorem MarkRow.set {w : World} {bx n k : Nat} {its : List It} (h : MarkRow w bx n its) (z : Int) : MarkRow (w.setCell ⟨bx, k * 2, none⟩ (.int .i64 z)) bx n its := by
  obtain ⟨f, h1, h2⟩ := h
  refine ⟨_, World.rowIs.set h1 _ _, fun j t ht => ?_⟩
  obtain ⟨a, z', b⟩ := h2 j t ht
  refine ⟨by rw [if_neg (by omega)]; exact a, ?_⟩
  by_cases e : j = k
  · exact ⟨z, by rw [if_pos (by omega)]⟩
  · exact ⟨z', by rw [if_neg (by omega)]; exact b⟩
theorem MarkRow.only {w w' : World} {bx n b : Nat} {its : List It} (h : MarkRow w bx n its) (g : Only b w w') (hb : bx ≠ b) : MarkRow w' bx n its := by
  obtain ⟨f, h1, h2⟩ := h
  exact ⟨f, World.rowIs.of_block h1 (g.block bx hb), h2⟩
theorem mark_start {w : World} {bx n : Nat} {its its0 : List It} (h : Copy w bx n its0 its) : MarkRow w bx n its :=
  ⟨_, by have := h.fresh.row; rw [h.len] at this; exact this, fun j t ht => ⟨itemCell_odd ht, _, itemCell_even ht⟩⟩
theorem slot_start {w : World} {bx n : Nat} {its its0 : List It} (h : Copy w bx n its0 its) : ∀ t ∈ its, Slot w bx w.heap.size t := fun t ht => by
  obtain ⟨bk, a1, a2, a3, _, a5⟩ := h.fresh.own t ht
  exact ⟨bk, t.xs, a1, a2, a5.lt, a3.symm, a5⟩

theorem Slot.below {w w' : World} {bx S : Nat} {t : It} (h : Slot w bx S t) (hb : Below S w w') : Slot w' bx S t := by
  obtain ⟨bk, ys, a1, a2, a3, a4, a5⟩ := h
  exact ⟨bk, ys, a1, a2, a3, a4, a5.below hb a3⟩
theorem Mid.row {w w' : World} {bx S b : Nat} {xs : List Int} (h : Mid bx S w w') (hx : IntRow w b xs) (hS : S ≤ b) : IntRow w' b xs := World.rowIs.of_block hx (h.block b (.inr hS))
/-- eqIntS, the world behind it told as 'Below'. -/
theorem eqInts_b (w : World) (B : Nat) (A A' : Option Addr) (n n' c c' : Nat) (xs ys : List Int) (hx : Ints w B A n xs) (hy : Ints w B A' n' ys) (hn : n ≤ 1048576) (b : Bool) (hb : b = true ↔ xs = ys) :
    Calls Tryz.prog 41 #[.slice A n c, .slice A' n' c'] w fun e w' => e = .returned (.bool b) ∧ Below w.heap.size w w' :=
  (eqInts w B A A' n n' c c' xs ys hx hy hn b hb).mono fun _ _ ⟨he, m, hm⟩ => ⟨he, hm ▸ below_drewN (Below.refl _ _) m⟩
theorem markItemsB (w : World) (bx n c S : Nat) (its : List It) (hr : MarkRow w bx n its) (hs : ∀ t ∈ its, Slot w bx S t) (hl : its.length = n) (hbx : bx < S) (hn : n ≤ 1048576) (hN : ∀ t ∈ its, t.n ≤ 1048576) :
    Calls Tryz.prog 42 #[.slice (some ⟨bx, 0, none⟩) n c, .int .i64 1] w fun e w' => (∃ r : Nat, e = .returned (.int .i64 r) ∧ 0 < r ∧ r ≤ 1099512676353) ∧ Mid bx S w w' := by
  have HR0 := Lib.hid hr
  have HS0 := Lib.hid hs
  have HL := Lib.hid hl
  have HN := Lib.hid hN
  clear hr hs hl hN
  go_enter Tryz.func42, Tryz.ntmps42
  go_wp2
  go_loopw [1, 5] (fun m i wr => ∃ k r : Nat, k ≤ n ∧ i = .int .i64 k ∧ m = .int .i64 r ∧ (0 < r ∧ r ≤ 1 + k * 1048577) ∧ MarkRow wr bx n its ∧ (∀ t ∈ its, Slot wr bx S t) ∧ Mid bx S w wr) (fun _ i _ => n - (intOf i).toNat)
  case atStart => exact ⟨0, 1, Nat.zero_le _, rfl, rfl, ⟨by omega, by omega⟩, HR0.out, HS0.out, Mid.refl _ _ _⟩
  case round =>
    obtain ⟨k, r, hk, rfl, rfl, hrb, hrow, hslot, hmid⟩ := hrel
    have HR := Lib.hid hrow
    have HS := Lib.hid hslot
    have HM := Lib.hid hmid
    clear hslot hmid
    by_cases hlt : k < n
    · obtain ⟨t, hat⟩ : ∃ t, its[k]? = some t := ⟨its[k]'(by rw [HL.out]; exact hlt), List.getElem?_eq_getElem _⟩
      obtain ⟨f, h1, h2⟩ := hrow
      obtain ⟨ha, z, hz⟩ := h2 k t hat
      have g1 : wr.cell? ⟨bx, k * 2, none⟩ = some (.int .i64 z) := by rw [World.rowIs.cell h1 (by omega), hz]
      have g2 := World.rowIs.frozen h1 (k * 2)
      have g3 : (wr.setCell ⟨bx, k * 2, none⟩ (.int .i64 r)).cell? ⟨bx, k * 2 + 1, none⟩ = some (.slice t.A t.n t.c) := by
        rw [World.cell?_setCell_other _ _ _ _ (fun e => by injection e; omega), World.rowIs.cell h1 (by omega), ha]
      obtain ⟨bk, ys, a1, a2, a3, a4, a5⟩ := HS.out t (mem_of_at hat)
      have htn := HN.out t (mem_of_at hat)
      rw [a1] at g3
      have HA5 := Lib.hid (World.rowIs.setOther a5 (a := ⟨bx, k * 2, none⟩) (by show bk ≠ bx; omega) (.int .i64 r))
      have HA4 := Lib.hid a4
      have HA2 : Hid (bx < bk ∧ bk < S) := Lib.hid ⟨a2, a3⟩
      have hr2 : r ≤ 1099512676353 := by omega
      clear h1 h2 ha hz hat a1 a2 a3 a4 a5
      go_wp2_with fail
      refine (markInts _ bk t.n t.c ys HA5.out HA4.out htn (r + 1) (by omega)).mono ?_
      rintro e w1 ⟨rfl, hm1, ho1⟩
      have HMr := Lib.hid ((HR.out.set (k := k) (r : Int)).only ho1 (by have := HA2.out; omega))
      have HSl : Hid (∀ t ∈ its, Slot w1 bx S t) := Lib.hid fun u hu => ((HS.out u hu).set (k * 2) (.int .i64 r)).only HA5.out HA4.out hm1 ho1
      have HMd := Lib.hid ((HM.out.only ((Only.refl bx wr).set (k * 2) (.int .i64 r)) (Nat.le_refl _) hbx).only ho1 (by have := HA2.out; omega) HA2.out.2)
      clear hm1 ho1 g1 g2 g3
      go_wp2
      go_roundw
      case rel => exact ⟨k + 1, r + 1 + t.n, by omega, by go_num, rfl, ⟨by omega, by omega⟩, HMr.out, HSl.out, HMd.out⟩
      case measure => simp [intOf]; omega
    · obtain rfl : k = n := by omega
      clear hrow
      go_wp2
      go_ret
      exact ⟨⟨r, rfl, by omega, by omega⟩, HM.out⟩
theorem markItems (w : World) (bx n c S : Nat) (its : List It) (hr : MarkRow w bx n its) (hs : ∀ t ∈ its, Slot w bx S t) (hl : its.length = n) (hbx : bx < S) (hn : n ≤ 1048576) (hN : ∀ t ∈ its, t.n ≤ 1048576) :
    Calls Tryz.prog 42 #[.slice (some ⟨bx, 0, none⟩) n c, .int .i64 1] w fun e w' => (∃ r : Nat, e = .returned (.int .i64 r)) ∧ Mid bx S w w' :=
  (markItemsB w bx n c S its hr hs hl hbx hn hN).mono fun _ _ ⟨⟨r, h, _, _⟩, hm⟩ => ⟨⟨r, h⟩, hm⟩
end Go.Proofs.YtceiocdemhkcdaaGreat.num
