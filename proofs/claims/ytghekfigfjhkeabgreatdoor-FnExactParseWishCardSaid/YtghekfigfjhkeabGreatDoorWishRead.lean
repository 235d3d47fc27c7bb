/-
  The program's readWish: what it makes of a text.
-/
import Derived.Test.YtghekfigfjhkeabGreatDoorWishKind
import Derived.Test.YtghekfigfjhkeabGreatDoorWishVal
import Derived.Test.YtghekfigfjhkeabGreatDoorItemParseI
import Derived.Test.YtghekfigfjhkeabGreatDoorPairParseI
namespace Go.Proofs.YtghekfigfjhkeabGreatDoor.num
open Go.RowKit
set_option linter.unusedVariables false
set_option linter.unusedSimpArgs false

/-- A wish that the program read. -/
structure ReadW (w : World) (B : Nat) (t : Wi) : Prop where
  l : OwnI w B (.slice t.LA t.Ln t.Lc) t.ls
  p : OwnP w B (.slice t.PA t.Pn t.Pc) t.ps
  nl : t.ls.length ≤ 1048576
  np : t.ps.length ≤ 8
  ap : ∀ k, (Value.slice t.LA t.Ln t.Lc).ownBlock = some k → (Value.slice t.PA t.Pn t.Pc).ownBlock ≠ some k
def OutRead (s : ByteArray) (w : World) (e : Ending) (w' : World) : Prop := (∃ t : Wi, e = .returned t.val ∧ ReadW w' w.heap.size t ∧ ImplW s.data.toList t.dat) ∧ Below w.heap.size w w'
theorem ownI_lowD' {w : World} {B B' : Nat} {v : Value} {l : List Int} (h : OwnI w B v l) (hB : B' ≤ B) : OwnI w B' v l :=
  ⟨h.1, h.2.imp id fun ⟨g, cap, cur, h1, h2, h3⟩ => ⟨g, cap, cur, h1, Nat.le_trans hB h2, h3⟩⟩
theorem ownP_lowD' {w : World} {B B' : Nat} {v : Value} {l : List (Int × Int)} (h : OwnP w B v l) (hB : B' ≤ B) : OwnP w B' v l :=
  ⟨h.1, h.2.imp id fun ⟨g, cap, cur, h1, h2, h3⟩ => ⟨g, cap, cur, h1, Nat.le_trans hB h2, h3⟩⟩
theorem trim_le (l : List UInt8) : (Lib.trimPrefix l [102]).length ≤ l.length := by
  unfold Lib.trimPrefix
  split
  · simp
  · exact Nat.le_refl _
theorem own_row {w : World} {B b : Nat} {xs : List Int} (hB : B ≤ b) (hn : xs.length ≤ 2000000) (h : IntRow w b xs) : OwnI w B (.slice (some ⟨b, 0, none⟩) xs.length xs.length) xs := by
  obtain ⟨cs, hc, hlen, hcs⟩ := h
  refine ⟨by simp, .inr ⟨b, xs.length, cs, rfl, hB, hc, Nat.le_refl _, by unfold maxLen; omega, by simpa using hlen, ?_⟩⟩
  apply List.ext_getElem?
  intro i
  rcases Nat.lt_or_ge i xs.length with h | h
  · rw [List.getElem?_take, if_pos (by omega), Array.getElem?_toList, hcs i h, List.getElem?_map, List.getElem?_eq_getElem h]
    show some (Value.int .i64 (xs.getD i 0)) = some (Value.int .i64 xs[i])
    rw [List.getD_eq_getElem?_getD, List.getElem?_eq_getElem h]
    rfl
  · rw [List.getElem?_eq_none (by rw [List.length_take]; omega), List.getElem?_eq_none (by rw [List.length_map]; omega)]
theorem below5 {w w' : World} {B X : Nat} (h : Below B w w') (hX : B ≤ X) (v0 v1 v2 v3 v4 : Value) : Below B w (((((w'.setCell ⟨X, 0, none⟩ v0).setCell ⟨X, 1, none⟩ v1).setCell ⟨X, 2, none⟩ v2).setCell ⟨X, 3, none⟩ v3).setCell ⟨X, 4, none⟩ v4) :=
  ((((h.setCell hX _).setCell hX _).setCell hX _).setCell hX _).setCell hX _
theorem other5 (w : World) (X b : Nat) (v0 v1 v2 v3 v4 : Value) (h : b ≠ X) : (((((w.setCell ⟨X, 0, none⟩ v0).setCell ⟨X, 1, none⟩ v1).setCell ⟨X, 2, none⟩ v2).setCell ⟨X, 3, none⟩ v3).setCell ⟨X, 4, none⟩ v4).heap[b]? = w.heap[b]? := by
  rw [heap_setCell_other _ _ _ _ h, heap_setCell_other _ _ _ _ h, heap_setCell_other _ _ _ _ h, heap_setCell_other _ _ _ _ h, heap_setCell_other _ _ _ _ h]
theorem cut_lt (c : UInt8) (l : List UInt8) : (Lib.cut l [c]).2.1.length + 1 ≤ l.length ∨ (Lib.cut l [c]).2.1 = [] := by
  rcases cut_back c l with ⟨_, h⟩ | ⟨_, h⟩
  · left
    have := congrArg List.length h
    simp at this
    omega
  · exact .inr h
set_option maxRecDepth 20000 in
set_option maxHeartbeats 6400000 in
theorem readWish_c (s : ByteArray) (hs : s.size ≤ 1048576) (w : World) (hpow : Pow w) (hmx : Mx w) (hkw : Kw w) :
    Calls Tryz.prog 14 #[.string s] w (OutRead s w) := by
  have HP := Lib.hid hpow
  have HM := Lib.hid hmx
  have HK := Lib.hid hkw
  obtain ⟨wd, hwd⟩ : ∃ x, x = readWd s.data.toList := ⟨_, rfl⟩
  obtain ⟨r1, hr1⟩ : ∃ x, x = (Lib.cut s.data.toList [32]).2.1 := ⟨_, rfl⟩
  obtain ⟨b1, hb1⟩ : ∃ x, x = (Lib.cut s.data.toList [32]).2.2 := ⟨_, rfl⟩
  obtain ⟨fd, hfd⟩ : ∃ x, x = readFd s.data.toList := ⟨_, rfl⟩
  obtain ⟨ar, har⟩ : ∃ x, x = readAr s.data.toList := ⟨_, rfl⟩
  obtain ⟨b2, hb2⟩ : ∃ x, x = (Lib.cut r1 [32]).2.2 := ⟨_, rfl⟩
  have hcl := cut_le 32 s.data.toList
  have hcl2 := cut_le 32 r1
  rw [size_list, ← hr1] at hcl
  have hfd2 : fd = (Lib.cut r1 [32]).1 := by rw [hfd, hr1]; rfl
  have har2 : ar = (Lib.cut r1 [32]).2.1 := by rw [har, hr1]; rfl
  rw [← hfd2, ← har2] at hcl2
  have hz1 : (⟨r1.toArray⟩ : ByteArray).size ≤ 1048576 := by rw [size_mk]; omega
  have HZ : Hid ((⟨(Lib.trimPrefix fd [102]).toArray⟩ : ByteArray).size ≤ 1048576 ∧ (⟨ar.toArray⟩ : ByteArray).size ≤ 1048576) := Lib.hid (by rw [size_mk, size_mk]; have := trim_le fd; omega)
  have hcut1 : ∀ w, Mx w → Calls Tryz.prog 27 #[.string s, .string ⟨#[32]⟩] w fun e w' => e = .returned (.tuple #[.string ⟨wd.toArray⟩, .string ⟨r1.toArray⟩, .bool b1]) ∧ Below w.heap.size w w' := fun w ⟨m, hm⟩ => by
    refine (Tryz.strings_Cut s ⟨#[32]⟩ m w (by omega) hm).mono fun e w' ⟨he, n, hw⟩ => ⟨?_, hw ▸ below_drewN (Below.refl _ _) n⟩
    rw [he, hwd, hr1, hb1]; rfl
  have hcut2 : ∀ w, Mx w → Calls Tryz.prog 27 #[.string ⟨r1.toArray⟩, .string ⟨#[32]⟩] w fun e w' => e = .returned (.tuple #[.string ⟨fd.toArray⟩, .string ⟨ar.toArray⟩, .bool b2]) ∧ Below w.heap.size w w' := fun w ⟨m, hm⟩ => by
    refine (Tryz.strings_Cut ⟨r1.toArray⟩ ⟨#[32]⟩ m w (by omega) hm).mono fun e w' ⟨he, n, hw⟩ => ⟨?_, hw ▸ below_drewN (Below.refl _ _) n⟩
    rw [he, hfd2, har2, hb2]
  have HL : Hid (ar.length + 1 ≤ 1048576) := Lib.hid (by
    rcases cut_lt 32 r1 with h | h
    · rw [← har2] at h; omega
    · rw [← har2] at h; rw [h]; simp)
  have HC1 := Lib.hid hcut1
  have HC2 := Lib.hid hcut2
  obtain ⟨k, hk⟩ : ∃ x, x = kindI wd := ⟨_, rfl⟩
  obtain ⟨f, hf⟩ : ∃ x, x = pVal (Lib.trimPrefix fd [102]) := ⟨_, rfl⟩
  have HKd := Lib.hid (show kindI (⟨wd.toArray⟩ : ByteArray).data.toList = k from hk.symm)
  have HFd := Lib.hid (show pVal (⟨(Lib.trimPrefix fd [102]).toArray⟩ : ByteArray).data.toList = f from hf.symm)
  have HImp : Hid (∀ (v : Int) (ls : List Int) (ps : List (Int × Int)), (v = if k = 2 then pVal ar else 0) → (if k = 3 then (allOk (pieces 44 ar) = true → ls = (pieces 44 ar).map pVal) else ls = []) → (if k = 4 then ∃ ok, ParsedP ar ps ok else ps = []) → ImplW s.data.toList ⟨k, f, v, ls, ps⟩) := Lib.hid fun v ls ps h1 h2 h3 => ⟨by rw [← hwd]; exact hk, by rw [← hfd]; exact hf, by rw [← har]; exact h1, by rw [← har]; exact h2, by rw [← har]; exact h3⟩
  clear hpow hmx hkw hcl hcl2 hz1 hcut1 hcut2 hwd hr1 hb1 hfd har hb2 hfd2 har2 hk hf
  have hx := (Below.refl w.heap.size w).alloc (Nat.le_refl _) (.cells #[.int .i64 0, .int .i64 0, .int .i64 0, .slice none 0 0, .slice none 0 0] 25)
  have HX := Lib.hid hx
  clear hx
  go_enter Tryz.func14, Tryz.ntmps14
  go_wp2_with fail
  refine (HC1.out _ (HM.out.below HX.out)).mono ?_
  rintro e w1 ⟨rfl, hb⟩
  have HR1 : Hid (w1.heap[w.heap.size]? = some (.cells #[.int .i64 0, .int .i64 0, .int .i64 0, .slice none 0 0, .slice none 0 0] 25 (0, 0))) := Lib.hid ((hb.block w.heap.size (by simp)).trans (heap_alloc_new w _))
  have HB1 := Lib.hid (HX.out.trans (hb.mono HX.out.size))
  clear hb HX
  go_wp2_with fail
  refine (HC2.out w1 (HM.out.below HB1.out)).mono ?_
  rintro e w2 ⟨rfl, hb⟩
  have HR2 := Lib.hid ((hb.block w.heap.size (lt_of_block HR1.out)).trans HR1.out)
  have HB2 := Lib.hid (HB1.out.trans (hb.mono HB1.out.size))
  clear hb HR1 HB1 HC1 HC2
  go_wp2_with fail
  refine (kindOf_c ⟨wd.toArray⟩ w2 (HK.out.below HB2.out)).mono ?_
  rintro e w3 ⟨rfl, hb⟩
  rw [HKd.out]
  have HR3 := Lib.hid ((hb.block w.heap.size (lt_of_block HR2.out)).trans HR2.out)
  have HB3 := Lib.hid (HB2.out.trans (hb.mono HB2.out.size))
  have hlt : w.heap.size < w3.heap.size := lt_of_block HR3.out
  clear hb HR2 HB2 HKd
  have HB4 := Lib.hid (HB3.out.alloc HB3.out.size (.cells #[.int .i64 k, .int .i64 0, .int .i64 0, .slice none 0 0, .slice none 0 0] 25))
  have HR4 := Lib.hid ((Below.heap_alloc w3 (.cells #[.int .i64 k, .int .i64 0, .int .i64 0, .slice none 0 0, .slice none 0 0] 25) _ hlt).trans HR3.out)
  have HY4 := Lib.hid (heap_alloc_new w3 (.cells #[.int .i64 k, .int .i64 0, .int .i64 0, .slice none 0 0, .slice none 0 0] 25))
  clear HR3 HB3
  go_wp2_with fail
  refine (Tryz.strings_TrimPrefix ⟨fd.toArray⟩ ⟨#[102]⟩ _).mono ?_
  rintro e w4 ⟨rfl, hw4⟩
  rw [hw4]
  clear hw4
  go_wp2_with fail
  refine (iParse ⟨(Lib.trimPrefix fd [102]).toArray⟩ HZ.out.1 _ (HP.out.below HB4.out)).mono ?_
  rintro e w5 ⟨rfl, hb⟩
  rw [HFd.out]
  have HR5 := Lib.hid ((hb.block w.heap.size (lt_of_block HR4.out)).trans HR4.out)
  have HY5 := Lib.hid ((hb.block w3.heap.size (lt_of_block HY4.out)).trans HY4.out)
  have HB5 := Lib.hid (HB4.out.trans (hb.mono HB4.out.size))
  clear hb HR4 HB4 HY4 HFd
  have y0 : World.cell? w5 ⟨w3.heap.size, 0, none⟩ = some (.int .i64 k) := cell_of_row _ _ 0 _ _ (0, 0) HY5.out
  have y1 : World.cell? w5 ⟨w3.heap.size, 1, none⟩ = some (.int .i64 0) := cell_of_row _ _ 1 _ _ (0, 0) HY5.out
  have y2 : World.cell? w5 ⟨w3.heap.size, 2, none⟩ = some (.int .i64 0) := cell_of_row _ _ 2 _ _ (0, 0) HY5.out
  have y3 : World.cell? w5 ⟨w3.heap.size, 3, none⟩ = some (.slice none 0 0) := cell_of_row _ _ 3 _ _ (0, 0) HY5.out
  have y4 : World.cell? w5 ⟨w3.heap.size, 4, none⟩ = some (.slice none 0 0) := cell_of_row _ _ 4 _ _ (0, 0) HY5.out
  have u1 : w5.frozen? ⟨w3.heap.size, 1, none⟩ = false := frozen_of_row _ _ 1 _ _ HY5.out
  have HR6 : Hid ((w5.setCell ⟨w3.heap.size, 1, none⟩ (.int .i64 f)).heap[w.heap.size]? = some (.cells #[.int .i64 0, .int .i64 0, .int .i64 0, .slice none 0 0, .slice none 0 0] 25 (0, 0))) := Lib.hid ((heap_setCell_other _ _ _ _ (by simp; omega)).trans HR5.out)
  have HY6 : Hid ((w5.setCell ⟨w3.heap.size, 1, none⟩ (.int .i64 f)).heap[w3.heap.size]? = some (.cells #[.int .i64 k, .int .i64 f, .int .i64 0, .slice none 0 0, .slice none 0 0] 25 (0, 0))) := Lib.hid (by have h := heap_setCell_same w5 w3.heap.size 1 _ _ (.int .i64 f) HY5.out; simpa using h)
  have HB6 : Hid (Below w.heap.size w (w5.setCell ⟨w3.heap.size, 1, none⟩ (.int .i64 f))) := Lib.hid (HB5.out.setCell (by show w.heap.size ≤ w3.heap.size; omega) _)
  by_cases k2 : k = 2
  · subst k2
    obtain ⟨v, hv⟩ : ∃ x, x = pVal ar := ⟨_, rfl⟩
    have HV := Lib.hid (show pVal (⟨ar.toArray⟩ : ByteArray).data.toList = v from hv.symm)
    have HI := Lib.hid (HImp.out v [] [] (by rw [if_pos rfl]; exact hv) (by rw [if_neg (by decide)]) (by rw [if_neg (by decide)]))
    clear hv HImp
    go_wp2_with fail
    refine (iParse ⟨ar.toArray⟩ HZ.out.2 _ (HP.out.below HB6.out)).mono ?_
    rintro e w7 ⟨rfl, hb⟩
    rw [HV.out]
    have HR7 := Lib.hid ((hb.block w.heap.size (lt_of_block HR6.out)).trans HR6.out)
    have HY7 := Lib.hid ((hb.block w3.heap.size (lt_of_block HY6.out)).trans HY6.out)
    have HB7 := Lib.hid (HB6.out.trans (hb.mono HB6.out.size))
    have hsz : w3.heap.size < w5.heap.size := by have := lt_of_block HY5.out; omega
    clear hb
    clear y0 y1 y2 y3 y4 u1
    have y0 : World.cell? w7 ⟨w3.heap.size, 0, none⟩ = some (.int .i64 2) := cell_of_row _ _ 0 _ _ (0, 0) HY7.out
    have y1 : World.cell? w7 ⟨w3.heap.size, 1, none⟩ = some (.int .i64 f) := cell_of_row _ _ 1 _ _ (0, 0) HY7.out
    have y2 : World.cell? w7 ⟨w3.heap.size, 2, none⟩ = some (.int .i64 0) := cell_of_row _ _ 2 _ _ (0, 0) HY7.out
    have y3 : World.cell? w7 ⟨w3.heap.size, 3, none⟩ = some (.slice none 0 0) := cell_of_row _ _ 3 _ _ (0, 0) HY7.out
    have y4 : World.cell? w7 ⟨w3.heap.size, 4, none⟩ = some (.slice none 0 0) := cell_of_row _ _ 4 _ _ (0, 0) HY7.out
    have u2 : w7.frozen? ⟨w3.heap.size, 2, none⟩ = false := frozen_of_row _ _ 2 _ _ HY7.out
    have x0 : World.cell? w7 ⟨w.heap.size, 0, none⟩ = some (.int .i64 0) := cell_of_row _ _ 0 _ _ (0, 0) HR7.out
    have x1 : World.cell? w7 ⟨w.heap.size, 1, none⟩ = some (.int .i64 0) := cell_of_row _ _ 1 _ _ (0, 0) HR7.out
    have x2 : World.cell? w7 ⟨w.heap.size, 2, none⟩ = some (.int .i64 0) := cell_of_row _ _ 2 _ _ (0, 0) HR7.out
    have x3 : World.cell? w7 ⟨w.heap.size, 3, none⟩ = some (.slice none 0 0) := cell_of_row _ _ 3 _ _ (0, 0) HR7.out
    have x4 : World.cell? w7 ⟨w.heap.size, 4, none⟩ = some (.slice none 0 0) := cell_of_row _ _ 4 _ _ (0, 0) HR7.out
    have z0 : World.frozen? w7 ⟨w.heap.size, 0, none⟩ = false := frozen_of_row _ _ 0 _ _ HR7.out
    have z1 : World.frozen? w7 ⟨w.heap.size, 1, none⟩ = false := frozen_of_row _ _ 1 _ _ HR7.out
    have z2 : World.frozen? w7 ⟨w.heap.size, 2, none⟩ = false := frozen_of_row _ _ 2 _ _ HR7.out
    have z3 : World.frozen? w7 ⟨w.heap.size, 3, none⟩ = false := frozen_of_row _ _ 3 _ _ HR7.out
    have z4 : World.frozen? w7 ⟨w.heap.size, 4, none⟩ = false := frozen_of_row _ _ 4 _ _ HR7.out
    go_wp2
    refine bodyPost_ret_by (results_cell_row rfl _ _ w.heap.size 25 _ (0, 0) _ rfl (five_set ((heap_setCell_other _ _ _ _ (by simp; omega)).trans HR7.out)) Tryz.underlying25 rfl (by kernel_rfl)) rfl ?_
    exact ⟨⟨⟨2, f, v, none, 0, 0, [], none, 0, 0, []⟩, rfl, ⟨ownI_nil _ _, OwnP.nil _ _, by simp, by simp, fun k h => (by cases h)⟩, HI.out⟩, below5 (HB7.out.setCell (by show w.heap.size ≤ w3.heap.size; omega) _) (Nat.le_refl _) _ _ _ _ _⟩
  have f2 : (k == 2) = false := by simpa using k2
  by_cases k3 : k = 3
  · subst k3
    obtain ⟨L, hL⟩ : ∃ L, pieces 44 ar = L := ⟨_, rfl⟩
    have HLl : Hid (L.length ≤ 1048576) := Lib.hid (by rw [← hL]; have := pieces_count 44 ar; have := HL.out; omega)
    have HI := Lib.hid (fun ls (h : allOk L = true → ls = L.map pVal) => HImp.out 0 ls [] (by rw [if_neg (by decide)]) (by rw [if_pos rfl, hL]; exact h) (by rw [if_neg (by decide)]))
    have HLL := Lib.hid hL
    clear hL HImp k2 f2
    go_wp2_with fail
    refine (splitInts ⟨ar.toArray⟩ HZ.out.2 _ (HP.out.below HB6.out) (HM.out.below HB6.out) L HLL.out).mono ?_
    rintro e w7 ⟨⟨u, ok, rfl, hvals⟩, hb⟩
    have HR7 := Lib.hid ((hb.block w.heap.size (lt_of_block HR6.out)).trans HR6.out)
    have HY7 := Lib.hid ((hb.block w3.heap.size (lt_of_block HY6.out)).trans HY6.out)
    have HB7 := Lib.hid (HB6.out.trans (hb.mono HB6.out.size))
    have hsz : w3.heap.size < w5.heap.size := by have := lt_of_block HY5.out; omega
    clear hb
    clear y0 y1 y2 y3 y4 u1
    have y0 : World.cell? w7 ⟨w3.heap.size, 0, none⟩ = some (.int .i64 3) := cell_of_row _ _ 0 _ _ (0, 0) HY7.out
    have y1 : World.cell? w7 ⟨w3.heap.size, 1, none⟩ = some (.int .i64 f) := cell_of_row _ _ 1 _ _ (0, 0) HY7.out
    have y2 : World.cell? w7 ⟨w3.heap.size, 2, none⟩ = some (.int .i64 0) := cell_of_row _ _ 2 _ _ (0, 0) HY7.out
    have y3 : World.cell? w7 ⟨w3.heap.size, 3, none⟩ = some (.slice none 0 0) := cell_of_row _ _ 3 _ _ (0, 0) HY7.out
    have y4 : World.cell? w7 ⟨w3.heap.size, 4, none⟩ = some (.slice none 0 0) := cell_of_row _ _ 4 _ _ (0, 0) HY7.out
    have u3 : w7.frozen? ⟨w3.heap.size, 3, none⟩ = false := frozen_of_row _ _ 3 _ _ HY7.out
    have x0 : World.cell? w7 ⟨w.heap.size, 0, none⟩ = some (.int .i64 0) := cell_of_row _ _ 0 _ _ (0, 0) HR7.out
    have x1 : World.cell? w7 ⟨w.heap.size, 1, none⟩ = some (.int .i64 0) := cell_of_row _ _ 1 _ _ (0, 0) HR7.out
    have x2 : World.cell? w7 ⟨w.heap.size, 2, none⟩ = some (.int .i64 0) := cell_of_row _ _ 2 _ _ (0, 0) HR7.out
    have x3 : World.cell? w7 ⟨w.heap.size, 3, none⟩ = some (.slice none 0 0) := cell_of_row _ _ 3 _ _ (0, 0) HR7.out
    have x4 : World.cell? w7 ⟨w.heap.size, 4, none⟩ = some (.slice none 0 0) := cell_of_row _ _ 4 _ _ (0, 0) HR7.out
    have z0 : World.frozen? w7 ⟨w.heap.size, 0, none⟩ = false := frozen_of_row _ _ 0 _ _ HR7.out
    have z1 : World.frozen? w7 ⟨w.heap.size, 1, none⟩ = false := frozen_of_row _ _ 1 _ _ HR7.out
    have z2 : World.frozen? w7 ⟨w.heap.size, 2, none⟩ = false := frozen_of_row _ _ 2 _ _ HR7.out
    have z3 : World.frozen? w7 ⟨w.heap.size, 3, none⟩ = false := frozen_of_row _ _ 3 _ _ HR7.out
    have z4 : World.frozen? w7 ⟨w.heap.size, 4, none⟩ = false := frozen_of_row _ _ 4 _ _ HR7.out
    have HVs := Lib.hid hvals
    clear hvals
    rcases HVs.out with ⟨rfl, hno, rfl⟩ | ⟨rfl, hyes, b, rfl, hBb, hrow⟩
    · have HN := Lib.hid hno
      clear hno HVs
      go_wp2
      refine bodyPost_ret_by (results_cell_row rfl _ _ w.heap.size 25 _ (0, 0) _ rfl (five_set ((heap_setCell_other _ _ _ _ (by simp; omega)).trans HR7.out)) Tryz.underlying25 rfl (by kernel_rfl)) rfl ?_
      exact ⟨⟨⟨3, f, 0, none, 0, 0, [], none, 0, 0, []⟩, rfl, ⟨ownI_nil _ _, OwnP.nil _ _, by simp, by simp, fun k h => (by cases h)⟩, HI.out [] (fun h => by rw [HN.out] at h; cases h)⟩, below5 (HB7.out.setCell (by show w.heap.size ≤ w3.heap.size; omega) _) (Nat.le_refl _) _ _ _ _ _⟩
    · have HO := Lib.hid (own_row hBb (by rw [List.length_map]; have := HLl.out; omega) hrow)
      rw [List.length_map] at HO
      have hBb' : w5.heap.size ≤ b := by simpa using hBb
      clear hyes hBb hrow HVs
      go_wp2
      refine bodyPost_ret_by (results_cell_row rfl _ _ w.heap.size 25 _ (0, 0) _ rfl (five_set ((heap_setCell_other _ _ _ _ (by simp; omega)).trans HR7.out)) Tryz.underlying25 rfl (by kernel_rfl)) rfl ?_
      refine ⟨⟨⟨3, f, 0, some ⟨b, 0, none⟩, L.length, L.length, L.map pVal, none, 0, 0, []⟩, rfl, ⟨ownI_lowD' (ownI_blocks HO.out fun k hk => ?_) (by simp; omega), OwnP.nil _ _, by show (L.map pVal).length ≤ 1048576; rw [List.length_map]; exact HLl.out, by simp, fun k h e => (by cases e)⟩, HI.out _ fun _ => rfl⟩, below5 (HB7.out.setCell (by show w.heap.size ≤ w3.heap.size; omega) _) (Nat.le_refl _) _ _ _ _ _⟩
      have hkb := ownI_lows HO.out k hk
      simp at hkb
      exact (other5 _ _ _ _ _ _ _ _ (by omega)).trans (heap_setCell_other _ _ _ _ (by simp; omega))
  have f3 : (k == 3) = false := by simpa using k3
  by_cases k4 : k = 4
  · subst k4
    have HI := Lib.hid (fun ps (h : ∃ ok, ParsedP ar ps ok) => HImp.out 0 [] ps (by rw [if_neg (by decide)]) (by rw [if_neg (by decide)]) (by rw [if_pos rfl]; exact h))
    clear HImp k2 f2 k3 f3
    go_wp2_with fail
    refine (iParsePairs ⟨ar.toArray⟩ HZ.out.2 _ (HP.out.below HB6.out) (HM.out.below HB6.out)).mono ?_
    rintro e w7 ⟨⟨u, ps, ok, rfl, hown, hpar⟩, hb⟩
    obtain ⟨A, n, c, rfl, hpp⟩ := hown.pairs
    have HR7 := Lib.hid ((hb.block w.heap.size (lt_of_block HR6.out)).trans HR6.out)
    have HY7 := Lib.hid ((hb.block w3.heap.size (lt_of_block HY6.out)).trans HY6.out)
    have HB7 := Lib.hid (HB6.out.trans (hb.mono HB6.out.size))
    have hsz : w3.heap.size < w5.heap.size := by have := lt_of_block HY5.out; omega
    clear hb
    clear y0 y1 y2 y3 y4 u1
    have y0 : World.cell? w7 ⟨w3.heap.size, 0, none⟩ = some (.int .i64 4) := cell_of_row _ _ 0 _ _ (0, 0) HY7.out
    have y1 : World.cell? w7 ⟨w3.heap.size, 1, none⟩ = some (.int .i64 f) := cell_of_row _ _ 1 _ _ (0, 0) HY7.out
    have y2 : World.cell? w7 ⟨w3.heap.size, 2, none⟩ = some (.int .i64 0) := cell_of_row _ _ 2 _ _ (0, 0) HY7.out
    have y3 : World.cell? w7 ⟨w3.heap.size, 3, none⟩ = some (.slice none 0 0) := cell_of_row _ _ 3 _ _ (0, 0) HY7.out
    have y4 : World.cell? w7 ⟨w3.heap.size, 4, none⟩ = some (.slice none 0 0) := cell_of_row _ _ 4 _ _ (0, 0) HY7.out
    have u4 : w7.frozen? ⟨w3.heap.size, 4, none⟩ = false := frozen_of_row _ _ 4 _ _ HY7.out
    have x0 : World.cell? w7 ⟨w.heap.size, 0, none⟩ = some (.int .i64 0) := cell_of_row _ _ 0 _ _ (0, 0) HR7.out
    have x1 : World.cell? w7 ⟨w.heap.size, 1, none⟩ = some (.int .i64 0) := cell_of_row _ _ 1 _ _ (0, 0) HR7.out
    have x2 : World.cell? w7 ⟨w.heap.size, 2, none⟩ = some (.int .i64 0) := cell_of_row _ _ 2 _ _ (0, 0) HR7.out
    have x3 : World.cell? w7 ⟨w.heap.size, 3, none⟩ = some (.slice none 0 0) := cell_of_row _ _ 3 _ _ (0, 0) HR7.out
    have x4 : World.cell? w7 ⟨w.heap.size, 4, none⟩ = some (.slice none 0 0) := cell_of_row _ _ 4 _ _ (0, 0) HR7.out
    have z0 : World.frozen? w7 ⟨w.heap.size, 0, none⟩ = false := frozen_of_row _ _ 0 _ _ HR7.out
    have z1 : World.frozen? w7 ⟨w.heap.size, 1, none⟩ = false := frozen_of_row _ _ 1 _ _ HR7.out
    have z2 : World.frozen? w7 ⟨w.heap.size, 2, none⟩ = false := frozen_of_row _ _ 2 _ _ HR7.out
    have z3 : World.frozen? w7 ⟨w.heap.size, 3, none⟩ = false := frozen_of_row _ _ 3 _ _ HR7.out
    have z4 : World.frozen? w7 ⟨w.heap.size, 4, none⟩ = false := frozen_of_row _ _ 4 _ _ HR7.out
    have HO := Lib.hid hown
    have HPa := Lib.hid hpar
    clear hown hpar hpp
    go_wp2
    refine bodyPost_ret_by (results_cell_row rfl _ _ w.heap.size 25 _ (0, 0) _ rfl (five_set ((heap_setCell_other _ _ _ _ (by simp; omega)).trans HR7.out)) Tryz.underlying25 rfl (by kernel_rfl)) rfl ?_
    refine ⟨⟨⟨4, f, 0, none, 0, 0, [], A, n, c, ps⟩, rfl, ⟨ownI_nil _ _, ownP_lowD' (HO.out.blocks fun k hk => ?_) (by simp; omega), by simp, HPa.out.len, fun k h => (by cases h)⟩, HI.out ps ⟨ok, HPa.out⟩⟩, below5 (HB7.out.setCell (by show w.heap.size ≤ w3.heap.size; omega) _) (Nat.le_refl _) _ _ _ _ _⟩
    have hkb := HO.out.lows k hk
    simp at hkb
    exact (other5 _ _ _ _ _ _ _ _ (by omega)).trans (heap_setCell_other _ _ _ _ (by simp; omega))
  have f4 : (k == 4) = false := by simpa using k4
  have HI := Lib.hid (HImp.out 0 [] [] (by rw [if_neg k2]) (by rw [if_neg k3]) (by rw [if_neg k4]))
  clear HImp k2 k3 k4
  have x0 : World.cell? w5 ⟨w.heap.size, 0, none⟩ = some (.int .i64 0) := cell_of_row _ _ 0 _ _ (0, 0) HR5.out
  have x1 : World.cell? w5 ⟨w.heap.size, 1, none⟩ = some (.int .i64 0) := cell_of_row _ _ 1 _ _ (0, 0) HR5.out
  have x2 : World.cell? w5 ⟨w.heap.size, 2, none⟩ = some (.int .i64 0) := cell_of_row _ _ 2 _ _ (0, 0) HR5.out
  have x3 : World.cell? w5 ⟨w.heap.size, 3, none⟩ = some (.slice none 0 0) := cell_of_row _ _ 3 _ _ (0, 0) HR5.out
  have x4 : World.cell? w5 ⟨w.heap.size, 4, none⟩ = some (.slice none 0 0) := cell_of_row _ _ 4 _ _ (0, 0) HR5.out
  have z0 : World.frozen? w5 ⟨w.heap.size, 0, none⟩ = false := frozen_of_row _ _ 0 _ _ HR5.out
  have z1 : World.frozen? w5 ⟨w.heap.size, 1, none⟩ = false := frozen_of_row _ _ 1 _ _ HR5.out
  have z2 : World.frozen? w5 ⟨w.heap.size, 2, none⟩ = false := frozen_of_row _ _ 2 _ _ HR5.out
  have z3 : World.frozen? w5 ⟨w.heap.size, 3, none⟩ = false := frozen_of_row _ _ 3 _ _ HR5.out
  have z4 : World.frozen? w5 ⟨w.heap.size, 4, none⟩ = false := frozen_of_row _ _ 4 _ _ HR5.out
  go_wp2
  refine bodyPost_ret_by (results_cell_row rfl _ _ w.heap.size 25 _ (0, 0) _ rfl (five_set HR6.out) Tryz.underlying25 rfl (by kernel_rfl)) rfl ?_
  exact ⟨⟨⟨k, f, 0, none, 0, 0, [], none, 0, 0, []⟩, rfl, ⟨ownI_nil _ _, OwnP.nil _ _, by simp, by simp, fun k h => (by cases h)⟩, HI.out⟩, below5 HB6.out (Nat.le_refl _) _ _ _ _ _⟩
end Go.Proofs.YtghekfigfjhkeabGreatDoor.num
