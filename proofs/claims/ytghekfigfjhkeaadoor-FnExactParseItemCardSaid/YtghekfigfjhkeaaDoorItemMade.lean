/-
  markItem, heldItem on what ParseItem hands back.
-/
import Derived.Test.YtghekfigfjhkeaaDoorItemParseS
namespace Go.Proofs.YtghekfigfjhkeaaDoor.num
open Go.RowKit
set_option linter.unusedVariables false

theorem mark_nil (w : World) : Calls Tryd.prog 49 #[.slice none 0 0, .int .i64 1] w fun e w' => e = .returned (.int .i64 1) ∧ w = w' := by
  go_enter Tryd.func49, Tryd.ntmps49
  go_wp2
  refine wp_loop_rounds 1 ?_
  rw [rounds_succ]
  go_wp2
  go_ret
  exact ⟨rfl, rfl⟩
theorem held_nil (w : World) : Calls Tryd.prog 50 #[.slice none 0 0, .int .i64 1] w fun e w' => e = .returned (.int .i64 1) ∧ w = w' := by
  go_enter Tryd.func50, Tryd.ntmps50
  go_wp2
  refine wp_loop_rounds 1 ?_
  rw [rounds_succ]
  go_wp2
  go_ret
  exact ⟨rfl, rfl⟩
/-- Marked: the slice's block holds 1, 2, 3. -/
def Marked (w : World) (B : Nat) (t : It) (ok : Bool) : Prop := (ok = false ∧ t = ⟨0, none, 0, 0, []⟩) ∨ (ok = true ∧ ∃ b, t.A = some ⟨b, 0, none⟩ ∧ t.n = 3 ∧ B ≤ b ∧ IntRow w b (marks 1 3))
theorem Marked.below {w w' : World} {B : Nat} {t : It} {ok : Bool} (h : Marked w B t ok) (hb : Below w.heap.size w w') : Marked w' B t ok := by
  rcases h with h | ⟨h1, b, h2, h3, h4, h5⟩
  · exact .inl h
  · exact .inr ⟨h1, b, h2, h3, h4, h5.below hb h5.lt⟩
theorem Made.below {w w' : World} {B : Nat} {t : It} {ok : Bool} (h : Made w B t ok) (hb : Below w.heap.size w w') : Made w' B t ok := by
  rcases h with h | ⟨h1, b, h2, h3, h4, h5, h6⟩
  · exact .inl h
  · exact .inr ⟨h1, b, h2, h3, h4, h5, h6.below hb h6.lt⟩
theorem Made.ints {w : World} {B : Nat} {t : It} {ok : Bool} (h : Made w B t ok) : Ints w w.heap.size t.A t.n t.xs ∧ t.n ≤ 1048576 := by
  rcases h with ⟨_, rfl⟩ | ⟨_, b, h2, h3, h4, _, h6⟩
  · exact ⟨⟨rfl, fun k hk => absurd hk (Nat.not_lt_zero k)⟩, by decide⟩
  · refine ⟨?_, by omega⟩
    have := h6.ints (B := w.heap.size) h6.lt
    rw [h4] at this
    rw [h2, h3]; exact this
/-- The count behind the marks. -/
def cnt (ok : Bool) : Int := if ok then 4 else 1

theorem markItem_c (w : World) (B : Nat) (t : It) (ok : Bool) (hm : Made w B t ok) (hB : B ≤ w.heap.size) :
    Calls Tryd.prog 19 #[t.val, .int .i64 1] w fun e w' => e = .returned (.int .i64 (cnt ok)) ∧ Marked w' B t ok ∧ Below B w w' ∧ w.heap.size ≤ w'.heap.size ∧ ∀ i, i < w.heap.size → (∀ b off : Nat, t.A = some ⟨b, off, none⟩ → i ≠ b) → w'.heap[i]? = w.heap[i]? := by
  rcases hm with ⟨rfl, rfl⟩ | ⟨rfl, b, h2, h3, h4, h5, h6⟩
  · unfold It.val
    go_enter Tryd.func19, Tryd.ntmps19
    go_wp2_with fail
    refine (mark_nil _).mono ?_
    rintro e w1 ⟨rfl, rfl⟩
    go_wp2
    go_ret
    exact ⟨rfl, .inl ⟨rfl, rfl⟩, (Below.refl B w).alloc hB _, by simp, fun i hi _ => Below.heap_alloc _ _ _ hi⟩
  · obtain ⟨id, A, n, c, xs⟩ := t
    simp only [] at h2 h3 h4 h6
    subst h2 h3
    have H6 := Lib.hid h6
    have H5 := Lib.hid h5
    have hlt := Lib.hid h6.lt
    have H4 := Lib.hid h4
    clear h6 h5 h4
    unfold It.val
    go_enter Tryd.func19, Tryd.ntmps19
    go_wp2_with fail
    have hx := (Below.refl w.heap.size w).alloc (Nat.le_refl _) (.cells #[.int .i64 id, .slice (some ⟨b, 0, none⟩) 3 c] 34)
    refine (markInts _ b 3 c xs (H6.out.below hx hlt.out) H4.out (by decide) 1 (by decide)).mono ?_
    rintro e w1 ⟨rfl, hm1, ho⟩
    have HM := Lib.hid hm1
    have HB := Lib.hid (((Below.refl B w).alloc hB (.cells #[.int .i64 id, .slice (some ⟨b, 0, none⟩) 3 c] 34)).trans (ho.below H5.out))
    have HI : Hid (w.heap.size ≤ w1.heap.size ∧ ∀ i, i < w.heap.size → i ≠ b → w1.heap[i]? = w.heap[i]?) := Lib.hid ⟨by rw [ho.size]; simp, fun i hi hne => (ho.block i hne).trans (Below.heap_alloc _ _ _ hi)⟩
    clear hm1 ho hx
    go_wp2
    go_ret
    exact ⟨rfl, .inr ⟨rfl, b, rfl, rfl, H5.out, HM.out⟩, HB.out, HI.out.1, fun i hi hne => HI.out.2 i hi (hne b 0 rfl)⟩

theorem heldItem_c (w : World) (B : Nat) (t : It) (ok : Bool) (hm : Marked w B t ok) :
    Calls Tryd.prog 20 #[t.val, .int .i64 1] w fun e w' => e = .returned (.int .i64 (cnt ok)) ∧ Below w.heap.size w w' := by
  have hx : ∀ o, Below w.heap.size w (w.alloc o) := fun o => (Below.refl w.heap.size w).alloc (Nat.le_refl _) o
  rcases hm with ⟨rfl, rfl⟩ | ⟨rfl, b, h2, h3, h5, h6⟩
  · unfold It.val
    have HX := Lib.hid hx
    clear hx
    go_enter Tryd.func20, Tryd.ntmps20
    go_wp2_with fail
    refine (held_nil _).mono ?_
    rintro e w1 ⟨rfl, rfl⟩
    go_wp2
    go_ret
    exact ⟨rfl, HX.out _⟩
  · obtain ⟨id, A, n, c, xs⟩ := t
    simp only [] at h2 h3
    subst h2 h3
    have H6 := Lib.hid h6
    have HX := Lib.hid hx
    clear h6 h5 hx
    unfold It.val
    go_enter Tryd.func20, Tryd.ntmps20
    go_wp2_with fail
    refine (heldInts _ b 3 c 1 (H6.out.below (HX.out _) H6.out.lt) (by decide) (by decide)).mono ?_
    rintro e w1 ⟨rfl, rfl⟩
    go_wp2
    go_ret
    exact ⟨rfl, HX.out _⟩

/-- A box of two cells. -/
def BoxP (w : World) (g : Nat) (u v : Value) : Prop := ∃ t, w.heap[g]? = some (.cells #[u, v] t (0, 0))
theorem BoxP.lt {w : World} {g : Nat} {u v : Value} (h : BoxP w g u v) : g < w.heap.size := by obtain ⟨t, h⟩ := h; exact lt_of_block h
theorem BoxP.c0 {w : World} {g : Nat} {u v : Value} (h : BoxP w g u v) : w.cell? ⟨g, 0, none⟩ = some u := by obtain ⟨t, h⟩ := h; exact cell_of_row w _ 0 _ _ (0, 0) h
theorem BoxP.c1 {w : World} {g : Nat} {u v : Value} (h : BoxP w g u v) : w.cell? ⟨g, 1, none⟩ = some v := by obtain ⟨t, h⟩ := h; exact cell_of_row w _ 1 _ _ (0, 0) h
theorem BoxP.keep {w w' : World} {g : Nat} {u v : Value} (h : BoxP w g u v) (e : w'.heap[g]? = w.heap[g]?) : BoxP w' g u v := by obtain ⟨t, h⟩ := h; exact ⟨t, e.trans h⟩
theorem BoxP.below {w w' : World} {g : Nat} {u v : Value} (h : BoxP w g u v) (hb : Below w.heap.size w w') : BoxP w' g u v := h.keep (hb.block g h.lt)
theorem BoxP.new (w : World) (u v : Value) (t : TypeId) : BoxP (w.alloc (.cells #[u, v] t)) w.heap.size u v := ⟨t, heap_alloc_new w _⟩
end Go.Proofs.YtghekfigfjhkeaaDoor.num
