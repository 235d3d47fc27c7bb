/- Contracts of functions that the laws of this chapter call, packed. -/
import Derived.Test.YtadjoiahllekdaaGreatDoorPtB
import Derived.Test.YtadjoiahllekdaaGreatDoorWishLaw
import Derived.Test.YtadjoiahllekdaaGreatDoorPtA
import Derived.Test.YtadjoiahllekdaaGreatDoorPairMark
import Derived.Maps.AppendAt
import Derived.Test.YtadjoiahllekdaaGreatDoorItemIds
import Derived.Deep.RegionLaw
import Derived.Deep.Cut
import Derived.Test.YtadjoiahllekdaaGreatDoorPairMarkI
namespace Go.Proofs.YtadjoiahllekdaaGreatDoor.num
set_option maxRecDepth 20000
open Go.RowKit

end Go.Proofs.YtadjoiahllekdaaGreatDoor.num
namespace Go.Proofs.YtadjoiahllekdaaGreatDoor.num
set_option maxRecDepth 20000
open Go.RowKit
set_option linter.unusedVariables false

/-- A slice of strings of the call's own. -/
def OwnS (w : World) (B : Nat) (v : Value) (l : List ByteArray) : Prop := w.ownsRow B 9 1 v l.length (l.map Value.string)
theorem OwnS.empty (w : World) (B : Nat) (hB : B ≤ w.heap.size) : OwnS (w.alloc (.cells #[] 9)) B (.slice (some ⟨w.heap.size, 0, none⟩) 0 0) [] :=
  World.ownsRow_made w #[] 0 hB (Nat.zero_le _) (by simp)
/-- A slice of strings that reads as l, below block B. -/
def Strs (w : World) (Lo B : Nat) (A : Option Addr) (n : Nat) (l : List ByteArray) : Prop := l.length = n ∧ ∀ k p, l[k]? = some p → ∃ b off : Nat, A = some ⟨b, off, none⟩ ∧ Lo ≤ b ∧ b < B ∧ w.cell? ⟨b, off + k, none⟩ = some (.string p)
theorem Strs.below {w w' : World} {Lo B : Nat} {A : Option Addr} {n : Nat} {l : List ByteArray} (h : Strs w Lo B A n l) (hb : Below B w w') : Strs w' Lo B A n l :=
  ⟨h.1, fun k p hk => by
    obtain ⟨b, off, ha, hL, hB, hc⟩ := h.2 k p hk
    exact ⟨b, off, ha, hL, hB, (hb.cell (p := ⟨b, off + k, none⟩) hB).trans hc⟩⟩
theorem wp_appS {ops : Array Oper} {rest : List Oper} {o : Oper} {a : Act} {Q : Exit → Act → World → Prop} (w : World) (hgd : o.guard = none) (s x : Operand)
    (ho : o.op = .call { callee := .builtin .append, args := #[s, x], argTypes := #[86, 86] })
    (B : Nat) (v : Value) (l : List ByteArray) (hs : a.eval s = v) (hown : OwnS w B v l) (cs : Array Value) (new : List ByteArray) (hcs : cs = (new.map Value.string).toArray) (n c : Nat) (hn : n = new.length)
    (hx : a.eval x = .slice (some ⟨w.heap.size, 0, none⟩) n c) (hlen : (l.length + new.length) * 16 ≤ 140737488355328) (hB : B ≤ w.heap.size)
    (h : ∀ v' w', OwnS w' B v' (l ++ new) → Below B w w' → wpList Tryz.prog ops Q rest (a.put o.dst v') w') :
    wpList Tryz.prog ops Q (o :: rest) a (w.alloc (.cells cs 9)) := by
  obtain ⟨i0, hi, hz0, hz1, hz2⟩ := info_parts info_string
  subst hcs hn
  refine wpList_append_own _ hgd s x 86 ho B 9 i0 (.string ⟨#[]⟩) 1 16 Tryz.underlying86 hi hz0 hz1 hz2 rfl (by decide) v l.length (l.map Value.string) hs (World.ownsRow.alloc hown _) ⟨w.heap.size, 0, none⟩ new.length c (new.map Value.string) hx (by simp) ?_ ?_ (by unfold maxLen; omega) (by omega) (by simp; omega) ?_
  · intro j u hj
    have e : (⟨w.heap.size, 0, none⟩ : Addr).add j = ⟨w.heap.size, j, none⟩ := by unfold Addr.add; split <;> simp_all
    rw [e, World.cell?_alloc_at _ _ _ _ rfl]
    simpa using hj
  · intro u hu
    obtain ⟨b, _, rfl⟩ := List.mem_map.1 hu
    rfl
  · intro v' w' hown' hg _
    refine h v' w' ?_ (((Below.refl B w).alloc hB _).grown hg (by simp; omega) (fun k hk => ?_))
    · have e : (l ++ new).length = l.length + new.length := by simp
      unfold OwnS
      rw [e, List.map_append]
      exact hown'
    · exact (World.ownsRow.lt hown k hk).1

theorem list_len (s : ByteArray) : s.data.toList.length = s.size := by rw [Array.length_toList]; rfl
end Go.Proofs.YtadjoiahllekdaaGreatDoor.num
namespace Go.Proofs.YtadjoiahllekdaaGreatDoor.num
set_option maxRecDepth 20000
open Go.RowKit Go.Maps
set_option linter.unusedVariables false
set_option linter.unusedSimpArgs false

theorem OwnS.two (w : World) (B : Nat) (hB : B ≤ w.heap.size) (a b : ByteArray) : OwnS (w.alloc (.cells #[.string a, .string b] 9)) B (.slice (some ⟨w.heap.size, 0, none⟩) 2 2) [a, b] :=
  ⟨rfl, .inr ⟨w.heap.size, 2, _, rfl, hB, heap_alloc_new w _, Nat.le_refl _, by decide, rfl, rfl⟩⟩
theorem OwnS.below {w w' : World} {B : Nat} {v : Value} {l : List ByteArray} (h : OwnS w B v l) (hb : Below w.heap.size w w') : OwnS w' B v l :=
  ⟨h.1, h.2.imp id fun ⟨g, cap, cur, h1, h2, h3, h4⟩ => ⟨g, cap, cur, h1, h2, (hb.block g (lt_of_block h3)).trans h3, h4⟩⟩
/-- Strings of the call's own, joined. -/
theorem join_own (w : World) (B : Nat) (v : Value) (l : List ByteArray) (sep : ByteArray) (h : OwnS w B v l) (hne : l ≠ []) (hl : l.length ≤ 10) (hj : (Lib.join (l.map (·.data.toList)) sep.data.toList).length ≤ 140737488355328) :
    Calls Tryz.prog 64 #[v, .string sep] w fun e w' => e = .returned (.string ⟨(Lib.join (l.map (·.data.toList)) sep.data.toList).toArray⟩) ∧ Below w.heap.size w w' := by
  have h0 := h
  rcases h.2 with ⟨rfl, hl0⟩ | ⟨g, cap, cur, rfl, hgB, hg, hcap, _⟩
  · exact absurd (List.eq_nil_of_length_eq_zero hl0) hne
  · refine Tryz.strings_Join g 0 cap l sep w (fun j x hx => ?_) (lt_of_block hg) (by omega) hcap hj
    have hlt : j < l.length := (List.getElem?_eq_some_iff.1 hx).1
    rw [Nat.zero_add, World.ownsRow.cellAt h0 j (by omega), List.getElem?_map, hx]; rfl
theorem kwB_size (i : Nat) : (kwB i).size ≤ 5 := by
  unfold kwB
  show (kwT.getD i []).toArray.size ≤ 5
  rw [List.size_toArray]
  rcases (show i = 0 ∨ i = 1 ∨ i = 2 ∨ i = 3 ∨ i = 4 ∨ 5 ≤ i by omega) with rfl | rfl | rfl | rfl | rfl | h
  · decide
  · decide
  · decide
  · decide
  · decide
  · rw [List.getD_eq_getElem?_getD, List.getElem?_eq_none (by simpa [kwT] using h)]
    decide
theorem join2 (a b : List UInt8) (c : UInt8) : Lib.join [a, b] [c] = a ++ c :: b := by rw [join_cons2, Lib.join_one]
theorem join3 (a b d : List UInt8) (c : UInt8) : Lib.join [a, b, d] [c] = a ++ c :: (b ++ c :: d) := by rw [join_cons2, join_cons2, Lib.join_one]
theorem fldB_list (f : Int) : (⟨#[102]⟩ ++ fmtB f : ByteArray).data.toList = 102 :: Lib.itoa f := by simp [fmtB, ByteArray.data_append]
theorem words2 {k : Nat} {f v : Int} {ls : List Int} {ps : List (Int × Int)} (hr : restT ⟨k, f, v, ls, ps⟩ = []) : (⟨(Lib.join ([kwB k, (⟨#[102]⟩ ++ fmtB f : ByteArray)].map (·.data.toList)) (⟨#[32]⟩ : ByteArray).data.toList).toArray⟩ : ByteArray) = fmtW ⟨k, f, v, ls, ps⟩ true := by
  apply fmtW_ext
  show Lib.join [(kwB k).data.toList, (⟨#[102]⟩ ++ fmtB f : ByteArray).data.toList] [32] = _
  rw [join2, fldB_list]
  unfold wishT
  rw [hr, List.append_nil]
  rfl
theorem words3 {k : Nat} {f v : Int} {ls : List Int} {ps : List (Int × Int)} {x : ByteArray} (hr : restT ⟨k, f, v, ls, ps⟩ = 32 :: x.data.toList) : (⟨(Lib.join ([kwB k, (⟨#[102]⟩ ++ fmtB f : ByteArray), x].map (·.data.toList)) (⟨#[32]⟩ : ByteArray).data.toList).toArray⟩ : ByteArray) = fmtW ⟨k, f, v, ls, ps⟩ true := by
  apply fmtW_ext
  show Lib.join [(kwB k).data.toList, (⟨#[102]⟩ ++ fmtB f : ByteArray).data.toList, x.data.toList] [32] = _
  rw [join3, fldB_list]
  unfold wishT
  rw [hr]
  simp [kwB]
theorem words_len (l : List ByteArray) (m : Nat) (hm : ∀ x ∈ l, x.size ≤ m) (hl : l.length ≤ 3) (h : m ≤ 4194304) : (Lib.join (l.map (·.data.toList)) (⟨#[32]⟩ : ByteArray).data.toList).length ≤ 140737488355328 := by
  have := join_le (m := m) 32 (l.map (·.data.toList)) fun x hx => by
    obtain ⟨b, hb, rfl⟩ := List.mem_map.1 hx
    rw [list_len]
    exact hm b hb
  rw [List.length_map] at this
  show (Lib.join (l.map (·.data.toList)) [32]).length ≤ _
  have h3 : (m + 1) * l.length ≤ (m + 1) * 3 := Nat.mul_le_mul_left _ hl
  omega

set_option maxRecDepth 20000 in
set_option maxHeartbeats 3200000 in
theorem iFmtW (w : World) (B : Nat) (t : Wi) (hi : WiIn w B t) (hB : B ≤ w.heap.size) (hn : t.Short) (q : Bool) (hq : q = true ↔ IsW t.dat) (hpow : Pow w) (hkw : Kw w) :
    Calls Tryz.prog 17 #[t.val] w fun e w' => e = .returned (.string (fmtW t.dat q)) ∧ Below w.heap.size w w' := by
  have HI := Lib.hid hi
  have HQ := Lib.hid hq
  have HPw := Lib.hid hpow
  have HKw := Lib.hid hkw
  have HB1 : Hid (∀ o : Obj, Below B w (w.alloc o)) := Lib.hid fun o => (Below.refl B w).alloc hB _
  have HW1 : Hid (∀ o : Obj, Below w.heap.size w (w.alloc o)) := Lib.hid fun o => (Below.refl _ w).alloc (Nat.le_refl _) _
  have HS : Hid (∀ w1 : World, WiIn w1 B t → B ≤ w1.heap.size → Calls Tryz.prog 63 #[t.val] w1 fun e w' => e = .returned (.bool q) ∧ Below w1.heap.size w1 w') := Lib.hid fun w1 h1 h2 => iIsWish w1 B t h1 h2 hn q hq
  have HN := Lib.hid hn
  clear hi hq hn hpow hkw
  obtain ⟨k, f, v, LA, Ln, Lc, ls, PA, Pn, Pc, ps⟩ := t
  unfold Wi.val at HS ⊢
  simp only [Wi.dat] at HQ ⊢
  cases q
  · go_enter Tryz.func17, Tryz.ntmps17
    go_wp2_with fail
    refine (HS.out _ (HI.out.below (HB1.out _)) (by simp; omega)).mono ?_
    rintro e w1 ⟨rfl, hb1⟩
    have HBB := Lib.hid ((HW1.out _).trans (hb1.mono (by simp)))
    clear hb1
    go_wp2
    go_ret
    exact ⟨rfl, HBB.out⟩
  · have HW := Lib.hid (HQ.out.1 rfl)
    have hk := HW.out.k
    have hf := HW.out.f
    have hv : k = 2 → InR v := fun h => HW.out.val2 h
    have ha : k = 3 → Asc ls := fun h => HW.out.asc h
    have ho : k = 4 → OkP ps := fun h => HW.out.okp h
    have HP : Hid (Pairs w B PA Pn ps) := Lib.hid HI.out.p
    have HL : Hid (Ints w B LA Ln ls) := Lib.hid HI.out.l
    have HNN : Hid (Ln ≤ 1048576 ∧ Pn ≤ 1048576) := Lib.hid HN.out
    have hff : (fmtB f).size ≤ 2 := fmt_R' ⟨hf.1, by have := hf.2; dsimp only at this; omega⟩
    have hf1 : -9223372036854775808 ≤ f := by have := hf.1; dsimp only at this; omega
    have hf2 : f ≤ 9223372036854775807 := by have := hf.2; dsimp only at this; omega
    have hfs : (⟨#[102]⟩ ++ fmtB f : ByteArray).size ≤ 3 := by
      have : (⟨#[102]⟩ ++ fmtB f : ByteArray).size = 1 + (fmtB f).size := by rw [ByteArray.size_append]; rfl
      omega
    dsimp only at hk
    clear hf HQ HN
    rcases (show k = 0 ∨ k = 1 ∨ k = 2 ∨ k = 3 ∨ k = 4 by omega) with rfl | rfl | rfl | rfl | rfl
    · clear hk hv ha ho
      have hwl : ∀ x ∈ [kwB 0, (⟨#[102]⟩ ++ fmtB f : ByteArray)], x.size ≤ 5 := by
        intro x hx
        simp only [List.mem_cons, List.not_mem_nil, or_false] at hx
        rcases hx with rfl | rfl
        · have := kwB_size 0; omega
        · omega
      go_enter Tryz.func17, Tryz.ntmps17
      go_wp2_with fail
      refine (HS.out _ (HI.out.below (HB1.out _)) (by simp; omega)).mono ?_
      rintro e w1 ⟨rfl, hb1⟩
      obtain ⟨c0, c1, c2, c3, c4, hg⟩ := box5 hb1
      have HBB := Lib.hid (And.intro ((HW1.out _).trans (hb1.mono (by simp))) ((HB1.out _).trans (hb1.mono (by simp; omega))))
      clear hb1
      obtain ⟨kb, ko, kc, k0, kg, kh, kk⟩ := HKw.out.below HBB.out.1
      have k1 : w1.cell? ⟨kb, ko, none⟩ = some (.string (kwB 0)) := kk 0 (by decide)
      clear kk
      have hc8 : ¬ (9223372036854775807 < 1 + (fmtB f).size) := by omega
      go_wp2
      have hs0 : (fun w' => Below w1.heap.size w1 w' ∧ w'.cell? ⟨w.heap.size, 0, none⟩ = some (.int .i64 0) ∧ w'.cell? ⟨w.heap.size, 1, none⟩ = some (.int .i64 f) ∧ w'.cell? ⟨w.heap.size, 2, none⟩ = some (.int .i64 v) ∧ w'.cell? ⟨w.heap.size, 3, none⟩ = some (.slice LA Ln Lc) ∧ w'.cell? ⟨w.heap.size, 4, none⟩ = some (.slice PA Pn Pc) ∧ w'.cell? ⟨0, 0, none⟩ = some (.slice (some ⟨kb, ko, none⟩) 5 kc) ∧ w'.cell? ⟨kb, ko, none⟩ = some (.string (kwB 0))) w1.drew := ⟨(Below.refl _ _).drew, c0, c1, c2, c3, c4, k0, k1⟩
      refine wp_region_held (S := fun w' => Below w1.heap.size w1 w' ∧ w'.cell? ⟨w.heap.size, 0, none⟩ = some (.int .i64 0) ∧ w'.cell? ⟨w.heap.size, 1, none⟩ = some (.int .i64 f) ∧ w'.cell? ⟨w.heap.size, 2, none⟩ = some (.int .i64 v) ∧ w'.cell? ⟨w.heap.size, 3, none⟩ = some (.slice LA Ln Lc) ∧ w'.cell? ⟨w.heap.size, 4, none⟩ = some (.slice PA Pn Pc) ∧ w'.cell? ⟨0, 0, none⟩ = some (.slice (some ⟨kb, ko, none⟩) 5 kc) ∧ w'.cell? ⟨kb, ko, none⟩ = some (.string (kwB 0))) (by kernel_rfl) ?_
      change wpAnyH _ _ _ _ _ _ _ _ (World.drew _)
      refine takeY 7 (i := 0) (v := ?v0d) rfl rfl (by kernel_rfl) (by kernel_rfl) (by kernel_rfl) (fun _ _ _ h => h) (by kernel_rfl) ?y0d hs0 ?_
      case y0d =>
        intro w' hw'; (try dsimp only at hw'); obtain ⟨e0, e1, e2, e3, e4, e5, e6, e7⟩ := hw'; go_simp; try with_reducible rfl
      simp only [Act.put, List.setIfInBounds_toArray, List.set_cons_zero, List.set_cons_succ]
      refine takeY 8 (i := 1) (v := ?v1d) rfl rfl (by kernel_rfl) (by kernel_rfl) (by kernel_rfl) (fun _ _ _ h => h) (by kernel_rfl) ?y1d hs0 ?_
      case y1d =>
        intro w' hw'; (try dsimp only at hw'); obtain ⟨e0, e1, e2, e3, e4, e5, e6, e7⟩ := hw'; go_simp; try with_reducible rfl
      simp only [Act.put, List.setIfInBounds_toArray, List.set_cons_zero, List.set_cons_succ]
      refine takeY 9 (i := 2) (v := ?v2d) rfl rfl (by kernel_rfl) (by kernel_rfl) (by kernel_rfl) (fun _ _ _ h => h) (by kernel_rfl) ?y2d hs0 ?_
      case y2d =>
        intro w' hw'; (try dsimp only at hw'); obtain ⟨e0, e1, e2, e3, e4, e5, e6, e7⟩ := hw'; go_simp; try with_reducible rfl
      simp only [Act.put, List.setIfInBounds_toArray, List.set_cons_zero, List.set_cons_succ]
      refine takeY 10 (i := 3) (v := ?v3d) rfl rfl (by kernel_rfl) (by kernel_rfl) (by kernel_rfl) (fun _ _ _ h => h) (by kernel_rfl) ?y3d hs0 ?_
      case y3d =>
        intro w' hw'; (try dsimp only at hw'); obtain ⟨e0, e1, e2, e3, e4, e5, e6, e7⟩ := hw'; go_simp; try with_reducible rfl
      simp only [Act.put, List.setIfInBounds_toArray, List.set_cons_zero, List.set_cons_succ]
      refine takeY 11 (i := 4) (v := ?v4d) rfl rfl (by kernel_rfl) (by kernel_rfl) (by kernel_rfl) (fun _ _ _ h => h) (by kernel_rfl) ?y4d hs0 ?_
      case y4d =>
        intro w' hw'; (try dsimp only at hw'); obtain ⟨e0, e1, e2, e3, e4, e5, e6, e7⟩ := hw'; go_simp; try with_reducible rfl
      simp only [Act.put, List.setIfInBounds_toArray, List.set_cons_zero, List.set_cons_succ]
      refine takeY 12 (i := 5) (v := ?v5d) rfl rfl (by kernel_rfl) (by kernel_rfl) (by kernel_rfl) (fun _ _ _ h => h) (by kernel_rfl) ?y5d hs0 ?_
      case y5d =>
        intro w' hw'; (try dsimp only at hw'); obtain ⟨e0, e1, e2, e3, e4, e5, e6, e7⟩ := hw'; go_simp; try with_reducible rfl
      simp only [Act.put, List.setIfInBounds_toArray, List.set_cons_zero, List.set_cons_succ]
      refine takeY 13 (i := 6) (v := ?v6d) rfl rfl (by kernel_rfl) (by kernel_rfl) (by kernel_rfl) (fun _ _ _ h => h) (by kernel_rfl) ?y6d hs0 ?_
      case y6d =>
        intro w' hw'; (try dsimp only at hw'); obtain ⟨e0, e1, e2, e3, e4, e5, e6, e7⟩ := hw'; go_simp; try with_reducible rfl
      simp only [Act.put, List.setIfInBounds_toArray, List.set_cons_zero, List.set_cons_succ]
      refine wpAnyH_ready (rs := [7]) (by kernel_rfl) (by simp) ?_
      refine AllReadyH.cons rfl (fun K hK => ?_) AllReadyH.nil
      go_simp; go_at_call 46; refine (iFormat f hf1 hf2 _ (HPw.out.below HBB.out.1.drew)).mono ?_; rintro e w2 ⟨rfl, hz⟩; replace hz := (Below.refl w1.heap.size w1).drew.trans (hz.mono (Nat.le_refl _))
      refine hK.out _ _ ⟨hz, (hz.cell (p := ⟨w.heap.size, 0, none⟩) hg).trans c0, (hz.cell (p := ⟨w.heap.size, 1, none⟩) hg).trans c1, (hz.cell (p := ⟨w.heap.size, 2, none⟩) hg).trans c2, (hz.cell (p := ⟨w.heap.size, 3, none⟩) hg).trans c3, (hz.cell (p := ⟨w.heap.size, 4, none⟩) hg).trans c4, (hz.cell (p := ⟨0, 0, none⟩) kg).trans k0, (hz.cell (p := ⟨kb, ko, none⟩) kh).trans k1⟩ (fun hS1 => ?_)
      clear hK K
      try simp only [Act.put, List.setIfInBounds_toArray, List.set_cons_zero, List.set_cons_succ]
      refine takeY 15 (i := 8) (v := ?v8d) rfl rfl (by kernel_rfl) (by kernel_rfl) (by kernel_rfl) (fun _ _ _ h => h) (by kernel_rfl) ?y8d hS1 ?_
      case y8d =>
        intro w' hw'; (try dsimp only at hw'); obtain ⟨e0, e1, e2, e3, e4, e5, e6, e7⟩ := hw'; go_simp; try with_reducible rfl
      simp only [Act.put, List.setIfInBounds_toArray, List.set_cons_zero, List.set_cons_succ]
      refine wpAnyH_ready (rs := [9]) (by kernel_rfl) (by simp) ?_
      refine AllReadyH.cons rfl (fun K hK => ?_) AllReadyH.nil
      go_simp
      refine hK.out _ _ ⟨(hz.alloc hz.size _), ((hz.alloc hz.size _).cell (p := ⟨w.heap.size, 0, none⟩) hg).trans c0, ((hz.alloc hz.size _).cell (p := ⟨w.heap.size, 1, none⟩) hg).trans c1, ((hz.alloc hz.size _).cell (p := ⟨w.heap.size, 2, none⟩) hg).trans c2, ((hz.alloc hz.size _).cell (p := ⟨w.heap.size, 3, none⟩) hg).trans c3, ((hz.alloc hz.size _).cell (p := ⟨w.heap.size, 4, none⟩) hg).trans c4, ((hz.alloc hz.size _).cell (p := ⟨0, 0, none⟩) kg).trans k0, ((hz.alloc hz.size _).cell (p := ⟨kb, ko, none⟩) kh).trans k1⟩ (fun hS2 => ?_)
      clear hK K
      try simp only [Act.put, List.setIfInBounds_toArray, List.set_cons_zero, List.set_cons_succ]
      refine takeY 3 (i := 10) (v := ?v10d) rfl rfl (by kernel_rfl) (by kernel_rfl) (by kernel_rfl) (fun _ _ _ h => h) (by kernel_rfl) ?y10d hS2 ?_
      case y10d =>
        intro w' hw'; (try dsimp only at hw'); obtain ⟨e0, e1, e2, e3, e4, e5, e6, e7⟩ := hw'; go_simp; try with_reducible rfl
      simp only [Act.put, List.setIfInBounds_toArray, List.set_cons_zero, List.set_cons_succ]
      refine wpAnyH_done (by kernel_rfl) ?_ _
      have HZ := Lib.hid (below_on HBB.out.1 hz)
      have HZs := Lib.hid hz.size
      have HZ2 := Lib.hid (HBB.out.2.trans (hz.mono (Nat.le_trans hB HBB.out.1.size)))
      have hz5 := hz.alloc hz.size (.cells #[.string (kwB 0), .string (⟨#[102]⟩ ++ fmtB f : ByteArray)] 9)
      have d0 := (hz5.cell (p := ⟨w.heap.size, 0, none⟩) hg).trans c0
      have d2 := (hz5.cell (p := ⟨w.heap.size, 2, none⟩) hg).trans c2
      have d3 := (hz5.cell (p := ⟨w.heap.size, 3, none⟩) hg).trans c3
      have d4 := (hz5.cell (p := ⟨w.heap.size, 4, none⟩) hg).trans c4
      have HO := Lib.hid (OwnS.two w2 w1.heap.size hz.size (kwB 0) (⟨#[102]⟩ ++ fmtB f : ByteArray))
      have HY : Hid (Below w.heap.size w (w2.alloc (.cells #[.string (kwB 0), .string (⟨#[102]⟩ ++ fmtB f : ByteArray)] 9))) := Lib.hid (HZ.out.alloc HZ.out.size _)
      have HY2 : Hid (Below B w (w2.alloc (.cells #[.string (kwB 0), .string (⟨#[102]⟩ ++ fmtB f : ByteArray)] 9))) := Lib.hid (HZ2.out.alloc (Nat.le_trans hB HZ.out.size) _)
      clear hz hz5 hs0 hS1 c0 c1 c2 c3 c4 k0 k1 kg kh
      go_wp2_with fail
      refine (join_own _ w1.heap.size _ _ ⟨#[32]⟩ HO.out (by simp) (by simp) (words_len _ 5 hwl (by simp) (by decide))).mono ?_
      rintro e w3 ⟨rfl, hb3⟩
      have HB3 := Lib.hid (below_on HY.out hb3)
      clear hb3 d0 d2 d3 d4 hwl
      rw [words2 (k := 0) (v := v) (ls := ls) (ps := ps) rfl]
      go_wp2
      go_ret
      exact ⟨rfl, HB3.out⟩
    · clear hk hv ha ho
      have hwl : ∀ x ∈ [kwB 1, (⟨#[102]⟩ ++ fmtB f : ByteArray)], x.size ≤ 5 := by
        intro x hx
        simp only [List.mem_cons, List.not_mem_nil, or_false] at hx
        rcases hx with rfl | rfl
        · have := kwB_size 1; omega
        · omega
      go_enter Tryz.func17, Tryz.ntmps17
      go_wp2_with fail
      refine (HS.out _ (HI.out.below (HB1.out _)) (by simp; omega)).mono ?_
      rintro e w1 ⟨rfl, hb1⟩
      obtain ⟨c0, c1, c2, c3, c4, hg⟩ := box5 hb1
      have HBB := Lib.hid (And.intro ((HW1.out _).trans (hb1.mono (by simp))) ((HB1.out _).trans (hb1.mono (by simp; omega))))
      clear hb1
      obtain ⟨kb, ko, kc, k0, kg, kh, kk⟩ := HKw.out.below HBB.out.1
      have k1 : w1.cell? ⟨kb, ko + 1, none⟩ = some (.string (kwB 1)) := kk 1 (by decide)
      clear kk
      have hc8 : ¬ (9223372036854775807 < 1 + (fmtB f).size) := by omega
      go_wp2
      have hs0 : (fun w' => Below w1.heap.size w1 w' ∧ w'.cell? ⟨w.heap.size, 0, none⟩ = some (.int .i64 1) ∧ w'.cell? ⟨w.heap.size, 1, none⟩ = some (.int .i64 f) ∧ w'.cell? ⟨w.heap.size, 2, none⟩ = some (.int .i64 v) ∧ w'.cell? ⟨w.heap.size, 3, none⟩ = some (.slice LA Ln Lc) ∧ w'.cell? ⟨w.heap.size, 4, none⟩ = some (.slice PA Pn Pc) ∧ w'.cell? ⟨0, 0, none⟩ = some (.slice (some ⟨kb, ko, none⟩) 5 kc) ∧ w'.cell? ⟨kb, ko + 1, none⟩ = some (.string (kwB 1))) w1.drew := ⟨(Below.refl _ _).drew, c0, c1, c2, c3, c4, k0, k1⟩
      refine wp_region_held (S := fun w' => Below w1.heap.size w1 w' ∧ w'.cell? ⟨w.heap.size, 0, none⟩ = some (.int .i64 1) ∧ w'.cell? ⟨w.heap.size, 1, none⟩ = some (.int .i64 f) ∧ w'.cell? ⟨w.heap.size, 2, none⟩ = some (.int .i64 v) ∧ w'.cell? ⟨w.heap.size, 3, none⟩ = some (.slice LA Ln Lc) ∧ w'.cell? ⟨w.heap.size, 4, none⟩ = some (.slice PA Pn Pc) ∧ w'.cell? ⟨0, 0, none⟩ = some (.slice (some ⟨kb, ko, none⟩) 5 kc) ∧ w'.cell? ⟨kb, ko + 1, none⟩ = some (.string (kwB 1))) (by kernel_rfl) ?_
      change wpAnyH _ _ _ _ _ _ _ _ (World.drew _)
      refine takeY 7 (i := 0) (v := ?v0e) rfl rfl (by kernel_rfl) (by kernel_rfl) (by kernel_rfl) (fun _ _ _ h => h) (by kernel_rfl) ?y0e hs0 ?_
      case y0e =>
        intro w' hw'; (try dsimp only at hw'); obtain ⟨e0, e1, e2, e3, e4, e5, e6, e7⟩ := hw'; go_simp; try with_reducible rfl
      simp only [Act.put, List.setIfInBounds_toArray, List.set_cons_zero, List.set_cons_succ]
      refine takeY 8 (i := 1) (v := ?v1e) rfl rfl (by kernel_rfl) (by kernel_rfl) (by kernel_rfl) (fun _ _ _ h => h) (by kernel_rfl) ?y1e hs0 ?_
      case y1e =>
        intro w' hw'; (try dsimp only at hw'); obtain ⟨e0, e1, e2, e3, e4, e5, e6, e7⟩ := hw'; go_simp; try with_reducible rfl
      simp only [Act.put, List.setIfInBounds_toArray, List.set_cons_zero, List.set_cons_succ]
      refine takeY 9 (i := 2) (v := ?v2e) rfl rfl (by kernel_rfl) (by kernel_rfl) (by kernel_rfl) (fun _ _ _ h => h) (by kernel_rfl) ?y2e hs0 ?_
      case y2e =>
        intro w' hw'; (try dsimp only at hw'); obtain ⟨e0, e1, e2, e3, e4, e5, e6, e7⟩ := hw'; go_simp; try with_reducible rfl
      simp only [Act.put, List.setIfInBounds_toArray, List.set_cons_zero, List.set_cons_succ]
      refine takeY 10 (i := 3) (v := ?v3e) rfl rfl (by kernel_rfl) (by kernel_rfl) (by kernel_rfl) (fun _ _ _ h => h) (by kernel_rfl) ?y3e hs0 ?_
      case y3e =>
        intro w' hw'; (try dsimp only at hw'); obtain ⟨e0, e1, e2, e3, e4, e5, e6, e7⟩ := hw'; go_simp; try with_reducible rfl
      simp only [Act.put, List.setIfInBounds_toArray, List.set_cons_zero, List.set_cons_succ]
      refine takeY 11 (i := 4) (v := ?v4e) rfl rfl (by kernel_rfl) (by kernel_rfl) (by kernel_rfl) (fun _ _ _ h => h) (by kernel_rfl) ?y4e hs0 ?_
      case y4e =>
        intro w' hw'; (try dsimp only at hw'); obtain ⟨e0, e1, e2, e3, e4, e5, e6, e7⟩ := hw'; go_simp; try with_reducible rfl
      simp only [Act.put, List.setIfInBounds_toArray, List.set_cons_zero, List.set_cons_succ]
      refine takeY 12 (i := 5) (v := ?v5e) rfl rfl (by kernel_rfl) (by kernel_rfl) (by kernel_rfl) (fun _ _ _ h => h) (by kernel_rfl) ?y5e hs0 ?_
      case y5e =>
        intro w' hw'; (try dsimp only at hw'); obtain ⟨e0, e1, e2, e3, e4, e5, e6, e7⟩ := hw'; go_simp; try with_reducible rfl
      simp only [Act.put, List.setIfInBounds_toArray, List.set_cons_zero, List.set_cons_succ]
      refine takeY 13 (i := 6) (v := ?v6e) rfl rfl (by kernel_rfl) (by kernel_rfl) (by kernel_rfl) (fun _ _ _ h => h) (by kernel_rfl) ?y6e hs0 ?_
      case y6e =>
        intro w' hw'; (try dsimp only at hw'); obtain ⟨e0, e1, e2, e3, e4, e5, e6, e7⟩ := hw'; go_simp; try with_reducible rfl
      simp only [Act.put, List.setIfInBounds_toArray, List.set_cons_zero, List.set_cons_succ]
      refine wpAnyH_ready (rs := [7]) (by kernel_rfl) (by simp) ?_
      refine AllReadyH.cons rfl (fun K hK => ?_) AllReadyH.nil
      go_simp; go_at_call 46; refine (iFormat f hf1 hf2 _ (HPw.out.below HBB.out.1.drew)).mono ?_; rintro e w2 ⟨rfl, hz⟩; replace hz := (Below.refl w1.heap.size w1).drew.trans (hz.mono (Nat.le_refl _))
      refine hK.out _ _ ⟨hz, (hz.cell (p := ⟨w.heap.size, 0, none⟩) hg).trans c0, (hz.cell (p := ⟨w.heap.size, 1, none⟩) hg).trans c1, (hz.cell (p := ⟨w.heap.size, 2, none⟩) hg).trans c2, (hz.cell (p := ⟨w.heap.size, 3, none⟩) hg).trans c3, (hz.cell (p := ⟨w.heap.size, 4, none⟩) hg).trans c4, (hz.cell (p := ⟨0, 0, none⟩) kg).trans k0, (hz.cell (p := ⟨kb, ko + 1, none⟩) kh).trans k1⟩ (fun hS1 => ?_)
      clear hK K
      try simp only [Act.put, List.setIfInBounds_toArray, List.set_cons_zero, List.set_cons_succ]
      refine takeY 15 (i := 8) (v := ?v8e) rfl rfl (by kernel_rfl) (by kernel_rfl) (by kernel_rfl) (fun _ _ _ h => h) (by kernel_rfl) ?y8e hS1 ?_
      case y8e =>
        intro w' hw'; (try dsimp only at hw'); obtain ⟨e0, e1, e2, e3, e4, e5, e6, e7⟩ := hw'; go_simp; try with_reducible rfl
      simp only [Act.put, List.setIfInBounds_toArray, List.set_cons_zero, List.set_cons_succ]
      refine wpAnyH_ready (rs := [9]) (by kernel_rfl) (by simp) ?_
      refine AllReadyH.cons rfl (fun K hK => ?_) AllReadyH.nil
      go_simp
      refine hK.out _ _ ⟨(hz.alloc hz.size _), ((hz.alloc hz.size _).cell (p := ⟨w.heap.size, 0, none⟩) hg).trans c0, ((hz.alloc hz.size _).cell (p := ⟨w.heap.size, 1, none⟩) hg).trans c1, ((hz.alloc hz.size _).cell (p := ⟨w.heap.size, 2, none⟩) hg).trans c2, ((hz.alloc hz.size _).cell (p := ⟨w.heap.size, 3, none⟩) hg).trans c3, ((hz.alloc hz.size _).cell (p := ⟨w.heap.size, 4, none⟩) hg).trans c4, ((hz.alloc hz.size _).cell (p := ⟨0, 0, none⟩) kg).trans k0, ((hz.alloc hz.size _).cell (p := ⟨kb, ko + 1, none⟩) kh).trans k1⟩ (fun hS2 => ?_)
      clear hK K
      try simp only [Act.put, List.setIfInBounds_toArray, List.set_cons_zero, List.set_cons_succ]
      refine takeY 3 (i := 10) (v := ?v10e) rfl rfl (by kernel_rfl) (by kernel_rfl) (by kernel_rfl) (fun _ _ _ h => h) (by kernel_rfl) ?y10e hS2 ?_
      case y10e =>
        intro w' hw'; (try dsimp only at hw'); obtain ⟨e0, e1, e2, e3, e4, e5, e6, e7⟩ := hw'; go_simp; try with_reducible rfl
      simp only [Act.put, List.setIfInBounds_toArray, List.set_cons_zero, List.set_cons_succ]
      refine wpAnyH_done (by kernel_rfl) ?_ _
      have HZ := Lib.hid (below_on HBB.out.1 hz)
      have HZs := Lib.hid hz.size
      have HZ2 := Lib.hid (HBB.out.2.trans (hz.mono (Nat.le_trans hB HBB.out.1.size)))
      have hz5 := hz.alloc hz.size (.cells #[.string (kwB 1), .string (⟨#[102]⟩ ++ fmtB f : ByteArray)] 9)
      have d0 := (hz5.cell (p := ⟨w.heap.size, 0, none⟩) hg).trans c0
      have d2 := (hz5.cell (p := ⟨w.heap.size, 2, none⟩) hg).trans c2
      have d3 := (hz5.cell (p := ⟨w.heap.size, 3, none⟩) hg).trans c3
      have d4 := (hz5.cell (p := ⟨w.heap.size, 4, none⟩) hg).trans c4
      have HO := Lib.hid (OwnS.two w2 w1.heap.size hz.size (kwB 1) (⟨#[102]⟩ ++ fmtB f : ByteArray))
      have HY : Hid (Below w.heap.size w (w2.alloc (.cells #[.string (kwB 1), .string (⟨#[102]⟩ ++ fmtB f : ByteArray)] 9))) := Lib.hid (HZ.out.alloc HZ.out.size _)
      have HY2 : Hid (Below B w (w2.alloc (.cells #[.string (kwB 1), .string (⟨#[102]⟩ ++ fmtB f : ByteArray)] 9))) := Lib.hid (HZ2.out.alloc (Nat.le_trans hB HZ.out.size) _)
      clear hz hz5 hs0 hS1 c0 c1 c2 c3 c4 k0 k1 kg kh
      go_wp2_with fail
      refine (join_own _ w1.heap.size _ _ ⟨#[32]⟩ HO.out (by simp) (by simp) (words_len _ 5 hwl (by simp) (by decide))).mono ?_
      rintro e w3 ⟨rfl, hb3⟩
      have HB3 := Lib.hid (below_on HY.out hb3)
      clear hb3 d0 d2 d3 d4 hwl
      rw [words2 (k := 1) (v := v) (ls := ls) (ps := ps) rfl]
      go_wp2
      go_ret
      exact ⟨rfl, HB3.out⟩
    · obtain ⟨v0, v9⟩ := hv rfl
      clear hk hv ha ho
      have hfv : (fmtB v).size ≤ 2 := fmt_R' ⟨v0, v9⟩
      have hwl : ∀ x ∈ [kwB 2, (⟨#[102]⟩ ++ fmtB f : ByteArray), fmtB v], x.size ≤ 5 := by
        intro x hx
        simp only [List.mem_cons, List.not_mem_nil, or_false] at hx
        rcases hx with rfl | rfl | rfl
        · have := kwB_size 2; omega
        · omega
        · omega
      go_enter Tryz.func17, Tryz.ntmps17
      go_wp2_with fail
      refine (HS.out _ (HI.out.below (HB1.out _)) (by simp; omega)).mono ?_
      rintro e w1 ⟨rfl, hb1⟩
      obtain ⟨c0, c1, c2, c3, c4, hg⟩ := box5 hb1
      have HBB := Lib.hid (And.intro ((HW1.out _).trans (hb1.mono (by simp))) ((HB1.out _).trans (hb1.mono (by simp; omega))))
      clear hb1
      obtain ⟨kb, ko, kc, k0, kg, kh, kk⟩ := HKw.out.below HBB.out.1
      have k1 : w1.cell? ⟨kb, ko + 2, none⟩ = some (.string (kwB 2)) := kk 2 (by decide)
      clear kk
      have hc8 : ¬ (9223372036854775807 < 1 + (fmtB f).size) := by omega
      go_wp2
      have hs0 : (fun w' => Below w1.heap.size w1 w' ∧ w'.cell? ⟨w.heap.size, 0, none⟩ = some (.int .i64 2) ∧ w'.cell? ⟨w.heap.size, 1, none⟩ = some (.int .i64 f) ∧ w'.cell? ⟨w.heap.size, 2, none⟩ = some (.int .i64 v) ∧ w'.cell? ⟨w.heap.size, 3, none⟩ = some (.slice LA Ln Lc) ∧ w'.cell? ⟨w.heap.size, 4, none⟩ = some (.slice PA Pn Pc) ∧ w'.cell? ⟨0, 0, none⟩ = some (.slice (some ⟨kb, ko, none⟩) 5 kc) ∧ w'.cell? ⟨kb, ko + 2, none⟩ = some (.string (kwB 2))) w1.drew := ⟨(Below.refl _ _).drew, c0, c1, c2, c3, c4, k0, k1⟩
      refine wp_region_held (S := fun w' => Below w1.heap.size w1 w' ∧ w'.cell? ⟨w.heap.size, 0, none⟩ = some (.int .i64 2) ∧ w'.cell? ⟨w.heap.size, 1, none⟩ = some (.int .i64 f) ∧ w'.cell? ⟨w.heap.size, 2, none⟩ = some (.int .i64 v) ∧ w'.cell? ⟨w.heap.size, 3, none⟩ = some (.slice LA Ln Lc) ∧ w'.cell? ⟨w.heap.size, 4, none⟩ = some (.slice PA Pn Pc) ∧ w'.cell? ⟨0, 0, none⟩ = some (.slice (some ⟨kb, ko, none⟩) 5 kc) ∧ w'.cell? ⟨kb, ko + 2, none⟩ = some (.string (kwB 2))) (by kernel_rfl) ?_
      change wpAnyH _ _ _ _ _ _ _ _ (World.drew _)
      refine takeY 7 (i := 0) (v := ?v0a) rfl rfl (by kernel_rfl) (by kernel_rfl) (by kernel_rfl) (fun _ _ _ h => h) (by kernel_rfl) ?y0a hs0 ?_
      case y0a =>
        intro w' hw'; (try dsimp only at hw'); obtain ⟨e0, e1, e2, e3, e4, e5, e6, e7⟩ := hw'; go_simp; try with_reducible rfl
      simp only [Act.put, List.setIfInBounds_toArray, List.set_cons_zero, List.set_cons_succ]
      refine takeY 8 (i := 1) (v := ?v1a) rfl rfl (by kernel_rfl) (by kernel_rfl) (by kernel_rfl) (fun _ _ _ h => h) (by kernel_rfl) ?y1a hs0 ?_
      case y1a =>
        intro w' hw'; (try dsimp only at hw'); obtain ⟨e0, e1, e2, e3, e4, e5, e6, e7⟩ := hw'; go_simp; try with_reducible rfl
      simp only [Act.put, List.setIfInBounds_toArray, List.set_cons_zero, List.set_cons_succ]
      refine takeY 9 (i := 2) (v := ?v2a) rfl rfl (by kernel_rfl) (by kernel_rfl) (by kernel_rfl) (fun _ _ _ h => h) (by kernel_rfl) ?y2a hs0 ?_
      case y2a =>
        intro w' hw'; (try dsimp only at hw'); obtain ⟨e0, e1, e2, e3, e4, e5, e6, e7⟩ := hw'; go_simp; try with_reducible rfl
      simp only [Act.put, List.setIfInBounds_toArray, List.set_cons_zero, List.set_cons_succ]
      refine takeY 10 (i := 3) (v := ?v3a) rfl rfl (by kernel_rfl) (by kernel_rfl) (by kernel_rfl) (fun _ _ _ h => h) (by kernel_rfl) ?y3a hs0 ?_
      case y3a =>
        intro w' hw'; (try dsimp only at hw'); obtain ⟨e0, e1, e2, e3, e4, e5, e6, e7⟩ := hw'; go_simp; try with_reducible rfl
      simp only [Act.put, List.setIfInBounds_toArray, List.set_cons_zero, List.set_cons_succ]
      refine takeY 11 (i := 4) (v := ?v4a) rfl rfl (by kernel_rfl) (by kernel_rfl) (by kernel_rfl) (fun _ _ _ h => h) (by kernel_rfl) ?y4a hs0 ?_
      case y4a =>
        intro w' hw'; (try dsimp only at hw'); obtain ⟨e0, e1, e2, e3, e4, e5, e6, e7⟩ := hw'; go_simp; try with_reducible rfl
      simp only [Act.put, List.setIfInBounds_toArray, List.set_cons_zero, List.set_cons_succ]
      refine takeY 12 (i := 5) (v := ?v5a) rfl rfl (by kernel_rfl) (by kernel_rfl) (by kernel_rfl) (fun _ _ _ h => h) (by kernel_rfl) ?y5a hs0 ?_
      case y5a =>
        intro w' hw'; (try dsimp only at hw'); obtain ⟨e0, e1, e2, e3, e4, e5, e6, e7⟩ := hw'; go_simp; try with_reducible rfl
      simp only [Act.put, List.setIfInBounds_toArray, List.set_cons_zero, List.set_cons_succ]
      refine takeY 13 (i := 6) (v := ?v6a) rfl rfl (by kernel_rfl) (by kernel_rfl) (by kernel_rfl) (fun _ _ _ h => h) (by kernel_rfl) ?y6a hs0 ?_
      case y6a =>
        intro w' hw'; (try dsimp only at hw'); obtain ⟨e0, e1, e2, e3, e4, e5, e6, e7⟩ := hw'; go_simp; try with_reducible rfl
      simp only [Act.put, List.setIfInBounds_toArray, List.set_cons_zero, List.set_cons_succ]
      refine wpAnyH_ready (rs := [7]) (by kernel_rfl) (by simp) ?_
      refine AllReadyH.cons rfl (fun K hK => ?_) AllReadyH.nil
      go_simp; go_at_call 46; refine (iFormat f hf1 hf2 _ (HPw.out.below HBB.out.1.drew)).mono ?_; rintro e w2 ⟨rfl, hz⟩; replace hz := (Below.refl w1.heap.size w1).drew.trans (hz.mono (Nat.le_refl _))
      refine hK.out _ _ ⟨hz, (hz.cell (p := ⟨w.heap.size, 0, none⟩) hg).trans c0, (hz.cell (p := ⟨w.heap.size, 1, none⟩) hg).trans c1, (hz.cell (p := ⟨w.heap.size, 2, none⟩) hg).trans c2, (hz.cell (p := ⟨w.heap.size, 3, none⟩) hg).trans c3, (hz.cell (p := ⟨w.heap.size, 4, none⟩) hg).trans c4, (hz.cell (p := ⟨0, 0, none⟩) kg).trans k0, (hz.cell (p := ⟨kb, ko + 2, none⟩) kh).trans k1⟩ (fun hS1 => ?_)
      clear hK K
      try simp only [Act.put, List.setIfInBounds_toArray, List.set_cons_zero, List.set_cons_succ]
      refine takeY 15 (i := 8) (v := ?v8a) rfl rfl (by kernel_rfl) (by kernel_rfl) (by kernel_rfl) (fun _ _ _ h => h) (by kernel_rfl) ?y8a hS1 ?_
      case y8a =>
        intro w' hw'; (try dsimp only at hw'); obtain ⟨e0, e1, e2, e3, e4, e5, e6, e7⟩ := hw'; go_simp; try with_reducible rfl
      simp only [Act.put, List.setIfInBounds_toArray, List.set_cons_zero, List.set_cons_succ]
      refine wpAnyH_ready (rs := [9]) (by kernel_rfl) (by simp) ?_
      refine AllReadyH.cons rfl (fun K hK => ?_) AllReadyH.nil
      go_simp
      refine hK.out _ _ ⟨(hz.alloc hz.size _), ((hz.alloc hz.size _).cell (p := ⟨w.heap.size, 0, none⟩) hg).trans c0, ((hz.alloc hz.size _).cell (p := ⟨w.heap.size, 1, none⟩) hg).trans c1, ((hz.alloc hz.size _).cell (p := ⟨w.heap.size, 2, none⟩) hg).trans c2, ((hz.alloc hz.size _).cell (p := ⟨w.heap.size, 3, none⟩) hg).trans c3, ((hz.alloc hz.size _).cell (p := ⟨w.heap.size, 4, none⟩) hg).trans c4, ((hz.alloc hz.size _).cell (p := ⟨0, 0, none⟩) kg).trans k0, ((hz.alloc hz.size _).cell (p := ⟨kb, ko + 2, none⟩) kh).trans k1⟩ (fun hS2 => ?_)
      clear hK K
      try simp only [Act.put, List.setIfInBounds_toArray, List.set_cons_zero, List.set_cons_succ]
      refine takeY 3 (i := 10) (v := ?v10a) rfl rfl (by kernel_rfl) (by kernel_rfl) (by kernel_rfl) (fun _ _ _ h => h) (by kernel_rfl) ?y10a hS2 ?_
      case y10a =>
        intro w' hw'; (try dsimp only at hw'); obtain ⟨e0, e1, e2, e3, e4, e5, e6, e7⟩ := hw'; go_simp; try with_reducible rfl
      simp only [Act.put, List.setIfInBounds_toArray, List.set_cons_zero, List.set_cons_succ]
      refine wpAnyH_done (by kernel_rfl) ?_ _
      have HZ := Lib.hid (below_on HBB.out.1 hz)
      have HZs := Lib.hid hz.size
      have HZ2 := Lib.hid (HBB.out.2.trans (hz.mono (Nat.le_trans hB HBB.out.1.size)))
      have hz5 := hz.alloc hz.size (.cells #[.string (kwB 2), .string (⟨#[102]⟩ ++ fmtB f : ByteArray)] 9)
      have d0 := (hz5.cell (p := ⟨w.heap.size, 0, none⟩) hg).trans c0
      have d2 := (hz5.cell (p := ⟨w.heap.size, 2, none⟩) hg).trans c2
      have d3 := (hz5.cell (p := ⟨w.heap.size, 3, none⟩) hg).trans c3
      have d4 := (hz5.cell (p := ⟨w.heap.size, 4, none⟩) hg).trans c4
      have HO := Lib.hid (OwnS.two w2 w1.heap.size hz.size (kwB 2) (⟨#[102]⟩ ++ fmtB f : ByteArray))
      have HY : Hid (Below w.heap.size w (w2.alloc (.cells #[.string (kwB 2), .string (⟨#[102]⟩ ++ fmtB f : ByteArray)] 9))) := Lib.hid (HZ.out.alloc HZ.out.size _)
      have HY2 : Hid (Below B w (w2.alloc (.cells #[.string (kwB 2), .string (⟨#[102]⟩ ++ fmtB f : ByteArray)] 9))) := Lib.hid (HZ2.out.alloc (Nat.le_trans hB HZ.out.size) _)
      clear hz hz5 hs0 hS1 c0 c1 c2 c3 c4 k0 k1 kg kh
      go_wp2_with fail
      refine (iFormat v (by omega) (by omega) _ (HPw.out.below HY.out)).mono ?_
      rintro e w3 ⟨rfl, hb3⟩
      have HO3 := Lib.hid (OwnS.below HO.out hb3)
      have HB3 := Lib.hid (below_on HY.out hb3)
      have HS3 : Hid (w1.heap.size ≤ w3.heap.size) := Lib.hid (by have h1 := HZs.out; have h2 := hb3.size; simp at h2; omega)
      clear hb3 d0 d2 d3 d4
      go_wp2_with (at_builtin; refine wp_appS w3 (by rfl) (.tmp 21) (.tmp 25) (by rfl) w1.heap.size _ _ (by rfl) HO3.out _ [fmtB v] (by rfl) 1 1 rfl (by rfl) (by simp) HS3.out ?_)
      intro v1 w4 hown hb4
      have HO4 := Lib.hid hown
      have HB4 := Lib.hid (HB3.out.trans (hb4.mono HBB.out.1.size))
      clear hown hb4
      go_wp2_with fail
      refine (join_own w4 w1.heap.size _ _ ⟨#[32]⟩ HO4.out (by simp) (by simp) (words_len _ 5 hwl (by simp) (by decide))).mono ?_
      rintro e w5 ⟨rfl, hb5⟩
      have HB5 := Lib.hid (below_on HB4.out hb5)
      clear hb5 hwl
      rw [words3 (k := 2) (f := f) (v := v) (ls := ls) (ps := ps) (x := fmtB v) (by simp [restT, fmtB])]
      go_wp2
      go_ret
      exact ⟨rfl, HB5.out⟩
    · have hasc := ha rfl
      have HA := Lib.hid hasc.2.1
      have hln := HNN.out.1
      have hlen := HL.out.1
      have hT := intsT_len HA.out
      clear hk hv ha ho hasc
      have hsx : (⟨(intsT ls).toArray⟩ : ByteArray).size ≤ 3145728 := by
        show (intsT ls).toArray.size ≤ _
        rw [List.size_toArray]
        omega
      have hwl : ∀ x ∈ [kwB 3, (⟨#[102]⟩ ++ fmtB f : ByteArray), ⟨(intsT ls).toArray⟩], x.size ≤ 3145728 := by
        intro x hx
        simp only [List.mem_cons, List.not_mem_nil, or_false] at hx
        rcases hx with rfl | rfl | rfl
        · have := kwB_size 3; omega
        · omega
        · exact hsx
      go_enter Tryz.func17, Tryz.ntmps17
      go_wp2_with fail
      refine (HS.out _ (HI.out.below (HB1.out _)) (by simp; omega)).mono ?_
      rintro e w1 ⟨rfl, hb1⟩
      obtain ⟨c0, c1, c2, c3, c4, hg⟩ := box5 hb1
      have HBB := Lib.hid (And.intro ((HW1.out _).trans (hb1.mono (by simp))) ((HB1.out _).trans (hb1.mono (by simp; omega))))
      clear hb1
      obtain ⟨kb, ko, kc, k0, kg, kh, kk⟩ := HKw.out.below HBB.out.1
      have k1 : w1.cell? ⟨kb, ko + 3, none⟩ = some (.string (kwB 3)) := kk 3 (by decide)
      clear kk
      have hc8 : ¬ (9223372036854775807 < 1 + (fmtB f).size) := by omega
      go_wp2
      have hs0 : (fun w' => Below w1.heap.size w1 w' ∧ w'.cell? ⟨w.heap.size, 0, none⟩ = some (.int .i64 3) ∧ w'.cell? ⟨w.heap.size, 1, none⟩ = some (.int .i64 f) ∧ w'.cell? ⟨w.heap.size, 2, none⟩ = some (.int .i64 v) ∧ w'.cell? ⟨w.heap.size, 3, none⟩ = some (.slice LA Ln Lc) ∧ w'.cell? ⟨w.heap.size, 4, none⟩ = some (.slice PA Pn Pc) ∧ w'.cell? ⟨0, 0, none⟩ = some (.slice (some ⟨kb, ko, none⟩) 5 kc) ∧ w'.cell? ⟨kb, ko + 3, none⟩ = some (.string (kwB 3))) w1.drew := ⟨(Below.refl _ _).drew, c0, c1, c2, c3, c4, k0, k1⟩
      refine wp_region_held (S := fun w' => Below w1.heap.size w1 w' ∧ w'.cell? ⟨w.heap.size, 0, none⟩ = some (.int .i64 3) ∧ w'.cell? ⟨w.heap.size, 1, none⟩ = some (.int .i64 f) ∧ w'.cell? ⟨w.heap.size, 2, none⟩ = some (.int .i64 v) ∧ w'.cell? ⟨w.heap.size, 3, none⟩ = some (.slice LA Ln Lc) ∧ w'.cell? ⟨w.heap.size, 4, none⟩ = some (.slice PA Pn Pc) ∧ w'.cell? ⟨0, 0, none⟩ = some (.slice (some ⟨kb, ko, none⟩) 5 kc) ∧ w'.cell? ⟨kb, ko + 3, none⟩ = some (.string (kwB 3))) (by kernel_rfl) ?_
      change wpAnyH _ _ _ _ _ _ _ _ (World.drew _)
      refine takeY 7 (i := 0) (v := ?v0b) rfl rfl (by kernel_rfl) (by kernel_rfl) (by kernel_rfl) (fun _ _ _ h => h) (by kernel_rfl) ?y0b hs0 ?_
      case y0b =>
        intro w' hw'; (try dsimp only at hw'); obtain ⟨e0, e1, e2, e3, e4, e5, e6, e7⟩ := hw'; go_simp; try with_reducible rfl
      simp only [Act.put, List.setIfInBounds_toArray, List.set_cons_zero, List.set_cons_succ]
      refine takeY 8 (i := 1) (v := ?v1b) rfl rfl (by kernel_rfl) (by kernel_rfl) (by kernel_rfl) (fun _ _ _ h => h) (by kernel_rfl) ?y1b hs0 ?_
      case y1b =>
        intro w' hw'; (try dsimp only at hw'); obtain ⟨e0, e1, e2, e3, e4, e5, e6, e7⟩ := hw'; go_simp; try with_reducible rfl
      simp only [Act.put, List.setIfInBounds_toArray, List.set_cons_zero, List.set_cons_succ]
      refine takeY 9 (i := 2) (v := ?v2b) rfl rfl (by kernel_rfl) (by kernel_rfl) (by kernel_rfl) (fun _ _ _ h => h) (by kernel_rfl) ?y2b hs0 ?_
      case y2b =>
        intro w' hw'; (try dsimp only at hw'); obtain ⟨e0, e1, e2, e3, e4, e5, e6, e7⟩ := hw'; go_simp; try with_reducible rfl
      simp only [Act.put, List.setIfInBounds_toArray, List.set_cons_zero, List.set_cons_succ]
      refine takeY 10 (i := 3) (v := ?v3b) rfl rfl (by kernel_rfl) (by kernel_rfl) (by kernel_rfl) (fun _ _ _ h => h) (by kernel_rfl) ?y3b hs0 ?_
      case y3b =>
        intro w' hw'; (try dsimp only at hw'); obtain ⟨e0, e1, e2, e3, e4, e5, e6, e7⟩ := hw'; go_simp; try with_reducible rfl
      simp only [Act.put, List.setIfInBounds_toArray, List.set_cons_zero, List.set_cons_succ]
      refine takeY 11 (i := 4) (v := ?v4b) rfl rfl (by kernel_rfl) (by kernel_rfl) (by kernel_rfl) (fun _ _ _ h => h) (by kernel_rfl) ?y4b hs0 ?_
      case y4b =>
        intro w' hw'; (try dsimp only at hw'); obtain ⟨e0, e1, e2, e3, e4, e5, e6, e7⟩ := hw'; go_simp; try with_reducible rfl
      simp only [Act.put, List.setIfInBounds_toArray, List.set_cons_zero, List.set_cons_succ]
      refine takeY 12 (i := 5) (v := ?v5b) rfl rfl (by kernel_rfl) (by kernel_rfl) (by kernel_rfl) (fun _ _ _ h => h) (by kernel_rfl) ?y5b hs0 ?_
      case y5b =>
        intro w' hw'; (try dsimp only at hw'); obtain ⟨e0, e1, e2, e3, e4, e5, e6, e7⟩ := hw'; go_simp; try with_reducible rfl
      simp only [Act.put, List.setIfInBounds_toArray, List.set_cons_zero, List.set_cons_succ]
      refine takeY 13 (i := 6) (v := ?v6b) rfl rfl (by kernel_rfl) (by kernel_rfl) (by kernel_rfl) (fun _ _ _ h => h) (by kernel_rfl) ?y6b hs0 ?_
      case y6b =>
        intro w' hw'; (try dsimp only at hw'); obtain ⟨e0, e1, e2, e3, e4, e5, e6, e7⟩ := hw'; go_simp; try with_reducible rfl
      simp only [Act.put, List.setIfInBounds_toArray, List.set_cons_zero, List.set_cons_succ]
      refine wpAnyH_ready (rs := [7]) (by kernel_rfl) (by simp) ?_
      refine AllReadyH.cons rfl (fun K hK => ?_) AllReadyH.nil
      go_simp; go_at_call 46; refine (iFormat f hf1 hf2 _ (HPw.out.below HBB.out.1.drew)).mono ?_; rintro e w2 ⟨rfl, hz⟩; replace hz := (Below.refl w1.heap.size w1).drew.trans (hz.mono (Nat.le_refl _))
      refine hK.out _ _ ⟨hz, (hz.cell (p := ⟨w.heap.size, 0, none⟩) hg).trans c0, (hz.cell (p := ⟨w.heap.size, 1, none⟩) hg).trans c1, (hz.cell (p := ⟨w.heap.size, 2, none⟩) hg).trans c2, (hz.cell (p := ⟨w.heap.size, 3, none⟩) hg).trans c3, (hz.cell (p := ⟨w.heap.size, 4, none⟩) hg).trans c4, (hz.cell (p := ⟨0, 0, none⟩) kg).trans k0, (hz.cell (p := ⟨kb, ko + 3, none⟩) kh).trans k1⟩ (fun hS1 => ?_)
      clear hK K
      try simp only [Act.put, List.setIfInBounds_toArray, List.set_cons_zero, List.set_cons_succ]
      refine takeY 15 (i := 8) (v := ?v8b) rfl rfl (by kernel_rfl) (by kernel_rfl) (by kernel_rfl) (fun _ _ _ h => h) (by kernel_rfl) ?y8b hS1 ?_
      case y8b =>
        intro w' hw'; (try dsimp only at hw'); obtain ⟨e0, e1, e2, e3, e4, e5, e6, e7⟩ := hw'; go_simp; try with_reducible rfl
      simp only [Act.put, List.setIfInBounds_toArray, List.set_cons_zero, List.set_cons_succ]
      refine wpAnyH_ready (rs := [9]) (by kernel_rfl) (by simp) ?_
      refine AllReadyH.cons rfl (fun K hK => ?_) AllReadyH.nil
      go_simp
      refine hK.out _ _ ⟨(hz.alloc hz.size _), ((hz.alloc hz.size _).cell (p := ⟨w.heap.size, 0, none⟩) hg).trans c0, ((hz.alloc hz.size _).cell (p := ⟨w.heap.size, 1, none⟩) hg).trans c1, ((hz.alloc hz.size _).cell (p := ⟨w.heap.size, 2, none⟩) hg).trans c2, ((hz.alloc hz.size _).cell (p := ⟨w.heap.size, 3, none⟩) hg).trans c3, ((hz.alloc hz.size _).cell (p := ⟨w.heap.size, 4, none⟩) hg).trans c4, ((hz.alloc hz.size _).cell (p := ⟨0, 0, none⟩) kg).trans k0, ((hz.alloc hz.size _).cell (p := ⟨kb, ko + 3, none⟩) kh).trans k1⟩ (fun hS2 => ?_)
      clear hK K
      try simp only [Act.put, List.setIfInBounds_toArray, List.set_cons_zero, List.set_cons_succ]
      refine takeY 3 (i := 10) (v := ?v10b) rfl rfl (by kernel_rfl) (by kernel_rfl) (by kernel_rfl) (fun _ _ _ h => h) (by kernel_rfl) ?y10b hS2 ?_
      case y10b =>
        intro w' hw'; (try dsimp only at hw'); obtain ⟨e0, e1, e2, e3, e4, e5, e6, e7⟩ := hw'; go_simp; try with_reducible rfl
      simp only [Act.put, List.setIfInBounds_toArray, List.set_cons_zero, List.set_cons_succ]
      refine wpAnyH_done (by kernel_rfl) ?_ _
      have HZ := Lib.hid (below_on HBB.out.1 hz)
      have HZs := Lib.hid hz.size
      have HZ2 := Lib.hid (HBB.out.2.trans (hz.mono (Nat.le_trans hB HBB.out.1.size)))
      have hz5 := hz.alloc hz.size (.cells #[.string (kwB 3), .string (⟨#[102]⟩ ++ fmtB f : ByteArray)] 9)
      have d0 := (hz5.cell (p := ⟨w.heap.size, 0, none⟩) hg).trans c0
      have d2 := (hz5.cell (p := ⟨w.heap.size, 2, none⟩) hg).trans c2
      have d3 := (hz5.cell (p := ⟨w.heap.size, 3, none⟩) hg).trans c3
      have d4 := (hz5.cell (p := ⟨w.heap.size, 4, none⟩) hg).trans c4
      have HO := Lib.hid (OwnS.two w2 w1.heap.size hz.size (kwB 3) (⟨#[102]⟩ ++ fmtB f : ByteArray))
      have HY : Hid (Below w.heap.size w (w2.alloc (.cells #[.string (kwB 3), .string (⟨#[102]⟩ ++ fmtB f : ByteArray)] 9))) := Lib.hid (HZ.out.alloc HZ.out.size _)
      have HY2 : Hid (Below B w (w2.alloc (.cells #[.string (kwB 3), .string (⟨#[102]⟩ ++ fmtB f : ByteArray)] 9))) := Lib.hid (HZ2.out.alloc (Nat.le_trans hB HZ.out.size) _)
      clear hz hz5 hs0 hS1 c0 c1 c2 c3 c4 k0 k1 kg kh
      go_wp2_with fail
      refine (iInts _ B LA Ln Lc ls (HL.out.below HY2.out) (Nat.le_trans hB HY.out.size) HNN.out.1 HA.out (HPw.out.below HY.out)).mono ?_
      rintro e w3 ⟨rfl, hb3⟩
      have HO3 := Lib.hid (OwnS.below HO.out hb3)
      have HB3 := Lib.hid (below_on HY.out hb3)
      have HS3 : Hid (w1.heap.size ≤ w3.heap.size) := Lib.hid (by have h1 := HZs.out; have h2 := hb3.size; simp at h2; omega)
      clear hb3 d0 d2 d3 d4
      go_wp2_with (at_builtin; refine wp_appS w3 (by rfl) (.tmp 29) (.tmp 33) (by rfl) w1.heap.size _ _ (by rfl) HO3.out _ [⟨(intsT ls).toArray⟩] (by rfl) 1 1 rfl (by rfl) (by simp) HS3.out ?_)
      intro v1 w4 hown hb4
      have HO4 := Lib.hid hown
      have HB4 := Lib.hid (HB3.out.trans (hb4.mono HBB.out.1.size))
      clear hown hb4
      go_wp2_with fail
      refine (join_own w4 w1.heap.size _ _ ⟨#[32]⟩ HO4.out (by simp) (by simp) (words_len _ 3145728 hwl (by simp) (by decide))).mono ?_
      rintro e w5 ⟨rfl, hb5⟩
      have HB5 := Lib.hid (below_on HB4.out hb5)
      clear hb5 hwl
      rw [words3 (k := 3) (f := f) (v := v) (ls := ls) (ps := ps) (x := ⟨(intsT ls).toArray⟩) (by simp [restT])]
      go_wp2
      go_ret
      exact ⟨rfl, HB5.out⟩
    · have hok := ho rfl
      have HOk := Lib.hid hok
      have hT := pairsT_len hok
      clear hk hv ha ho hok
      have hsx : (fmtP ps true).size ≤ 60 := by
        show (pairsT ps).toArray.size ≤ _
        rw [List.size_toArray]
        omega
      have hwl : ∀ x ∈ [kwB 4, (⟨#[102]⟩ ++ fmtB f : ByteArray), fmtP ps true], x.size ≤ 60 := by
        intro x hx
        simp only [List.mem_cons, List.not_mem_nil, or_false] at hx
        rcases hx with rfl | rfl | rfl
        · have := kwB_size 4; omega
        · omega
        · exact hsx
      go_enter Tryz.func17, Tryz.ntmps17
      go_wp2_with fail
      refine (HS.out _ (HI.out.below (HB1.out _)) (by simp; omega)).mono ?_
      rintro e w1 ⟨rfl, hb1⟩
      obtain ⟨c0, c1, c2, c3, c4, hg⟩ := box5 hb1
      have HBB := Lib.hid (And.intro ((HW1.out _).trans (hb1.mono (by simp))) ((HB1.out _).trans (hb1.mono (by simp; omega))))
      clear hb1
      obtain ⟨kb, ko, kc, k0, kg, kh, kk⟩ := HKw.out.below HBB.out.1
      have k1 : w1.cell? ⟨kb, ko + 4, none⟩ = some (.string (kwB 4)) := kk 4 (by decide)
      clear kk
      have hc8 : ¬ (9223372036854775807 < 1 + (fmtB f).size) := by omega
      go_wp2
      have hs0 : (fun w' => Below w1.heap.size w1 w' ∧ w'.cell? ⟨w.heap.size, 0, none⟩ = some (.int .i64 4) ∧ w'.cell? ⟨w.heap.size, 1, none⟩ = some (.int .i64 f) ∧ w'.cell? ⟨w.heap.size, 2, none⟩ = some (.int .i64 v) ∧ w'.cell? ⟨w.heap.size, 3, none⟩ = some (.slice LA Ln Lc) ∧ w'.cell? ⟨w.heap.size, 4, none⟩ = some (.slice PA Pn Pc) ∧ w'.cell? ⟨0, 0, none⟩ = some (.slice (some ⟨kb, ko, none⟩) 5 kc) ∧ w'.cell? ⟨kb, ko + 4, none⟩ = some (.string (kwB 4))) w1.drew := ⟨(Below.refl _ _).drew, c0, c1, c2, c3, c4, k0, k1⟩
      refine wp_region_held (S := fun w' => Below w1.heap.size w1 w' ∧ w'.cell? ⟨w.heap.size, 0, none⟩ = some (.int .i64 4) ∧ w'.cell? ⟨w.heap.size, 1, none⟩ = some (.int .i64 f) ∧ w'.cell? ⟨w.heap.size, 2, none⟩ = some (.int .i64 v) ∧ w'.cell? ⟨w.heap.size, 3, none⟩ = some (.slice LA Ln Lc) ∧ w'.cell? ⟨w.heap.size, 4, none⟩ = some (.slice PA Pn Pc) ∧ w'.cell? ⟨0, 0, none⟩ = some (.slice (some ⟨kb, ko, none⟩) 5 kc) ∧ w'.cell? ⟨kb, ko + 4, none⟩ = some (.string (kwB 4))) (by kernel_rfl) ?_
      change wpAnyH _ _ _ _ _ _ _ _ (World.drew _)
      refine takeY 7 (i := 0) (v := ?v0c) rfl rfl (by kernel_rfl) (by kernel_rfl) (by kernel_rfl) (fun _ _ _ h => h) (by kernel_rfl) ?y0c hs0 ?_
      case y0c =>
        intro w' hw'; (try dsimp only at hw'); obtain ⟨e0, e1, e2, e3, e4, e5, e6, e7⟩ := hw'; go_simp; try with_reducible rfl
      simp only [Act.put, List.setIfInBounds_toArray, List.set_cons_zero, List.set_cons_succ]
      refine takeY 8 (i := 1) (v := ?v1c) rfl rfl (by kernel_rfl) (by kernel_rfl) (by kernel_rfl) (fun _ _ _ h => h) (by kernel_rfl) ?y1c hs0 ?_
      case y1c =>
        intro w' hw'; (try dsimp only at hw'); obtain ⟨e0, e1, e2, e3, e4, e5, e6, e7⟩ := hw'; go_simp; try with_reducible rfl
      simp only [Act.put, List.setIfInBounds_toArray, List.set_cons_zero, List.set_cons_succ]
      refine takeY 9 (i := 2) (v := ?v2c) rfl rfl (by kernel_rfl) (by kernel_rfl) (by kernel_rfl) (fun _ _ _ h => h) (by kernel_rfl) ?y2c hs0 ?_
      case y2c =>
        intro w' hw'; (try dsimp only at hw'); obtain ⟨e0, e1, e2, e3, e4, e5, e6, e7⟩ := hw'; go_simp; try with_reducible rfl
      simp only [Act.put, List.setIfInBounds_toArray, List.set_cons_zero, List.set_cons_succ]
      refine takeY 10 (i := 3) (v := ?v3c) rfl rfl (by kernel_rfl) (by kernel_rfl) (by kernel_rfl) (fun _ _ _ h => h) (by kernel_rfl) ?y3c hs0 ?_
      case y3c =>
        intro w' hw'; (try dsimp only at hw'); obtain ⟨e0, e1, e2, e3, e4, e5, e6, e7⟩ := hw'; go_simp; try with_reducible rfl
      simp only [Act.put, List.setIfInBounds_toArray, List.set_cons_zero, List.set_cons_succ]
      refine takeY 11 (i := 4) (v := ?v4c) rfl rfl (by kernel_rfl) (by kernel_rfl) (by kernel_rfl) (fun _ _ _ h => h) (by kernel_rfl) ?y4c hs0 ?_
      case y4c =>
        intro w' hw'; (try dsimp only at hw'); obtain ⟨e0, e1, e2, e3, e4, e5, e6, e7⟩ := hw'; go_simp; try with_reducible rfl
      simp only [Act.put, List.setIfInBounds_toArray, List.set_cons_zero, List.set_cons_succ]
      refine takeY 12 (i := 5) (v := ?v5c) rfl rfl (by kernel_rfl) (by kernel_rfl) (by kernel_rfl) (fun _ _ _ h => h) (by kernel_rfl) ?y5c hs0 ?_
      case y5c =>
        intro w' hw'; (try dsimp only at hw'); obtain ⟨e0, e1, e2, e3, e4, e5, e6, e7⟩ := hw'; go_simp; try with_reducible rfl
      simp only [Act.put, List.setIfInBounds_toArray, List.set_cons_zero, List.set_cons_succ]
      refine takeY 13 (i := 6) (v := ?v6c) rfl rfl (by kernel_rfl) (by kernel_rfl) (by kernel_rfl) (fun _ _ _ h => h) (by kernel_rfl) ?y6c hs0 ?_
      case y6c =>
        intro w' hw'; (try dsimp only at hw'); obtain ⟨e0, e1, e2, e3, e4, e5, e6, e7⟩ := hw'; go_simp; try with_reducible rfl
      simp only [Act.put, List.setIfInBounds_toArray, List.set_cons_zero, List.set_cons_succ]
      refine wpAnyH_ready (rs := [7]) (by kernel_rfl) (by simp) ?_
      refine AllReadyH.cons rfl (fun K hK => ?_) AllReadyH.nil
      go_simp; go_at_call 46; refine (iFormat f hf1 hf2 _ (HPw.out.below HBB.out.1.drew)).mono ?_; rintro e w2 ⟨rfl, hz⟩; replace hz := (Below.refl w1.heap.size w1).drew.trans (hz.mono (Nat.le_refl _))
      refine hK.out _ _ ⟨hz, (hz.cell (p := ⟨w.heap.size, 0, none⟩) hg).trans c0, (hz.cell (p := ⟨w.heap.size, 1, none⟩) hg).trans c1, (hz.cell (p := ⟨w.heap.size, 2, none⟩) hg).trans c2, (hz.cell (p := ⟨w.heap.size, 3, none⟩) hg).trans c3, (hz.cell (p := ⟨w.heap.size, 4, none⟩) hg).trans c4, (hz.cell (p := ⟨0, 0, none⟩) kg).trans k0, (hz.cell (p := ⟨kb, ko + 4, none⟩) kh).trans k1⟩ (fun hS1 => ?_)
      clear hK K
      try simp only [Act.put, List.setIfInBounds_toArray, List.set_cons_zero, List.set_cons_succ]
      refine takeY 15 (i := 8) (v := ?v8c) rfl rfl (by kernel_rfl) (by kernel_rfl) (by kernel_rfl) (fun _ _ _ h => h) (by kernel_rfl) ?y8c hS1 ?_
      case y8c =>
        intro w' hw'; (try dsimp only at hw'); obtain ⟨e0, e1, e2, e3, e4, e5, e6, e7⟩ := hw'; go_simp; try with_reducible rfl
      simp only [Act.put, List.setIfInBounds_toArray, List.set_cons_zero, List.set_cons_succ]
      refine wpAnyH_ready (rs := [9]) (by kernel_rfl) (by simp) ?_
      refine AllReadyH.cons rfl (fun K hK => ?_) AllReadyH.nil
      go_simp
      refine hK.out _ _ ⟨(hz.alloc hz.size _), ((hz.alloc hz.size _).cell (p := ⟨w.heap.size, 0, none⟩) hg).trans c0, ((hz.alloc hz.size _).cell (p := ⟨w.heap.size, 1, none⟩) hg).trans c1, ((hz.alloc hz.size _).cell (p := ⟨w.heap.size, 2, none⟩) hg).trans c2, ((hz.alloc hz.size _).cell (p := ⟨w.heap.size, 3, none⟩) hg).trans c3, ((hz.alloc hz.size _).cell (p := ⟨w.heap.size, 4, none⟩) hg).trans c4, ((hz.alloc hz.size _).cell (p := ⟨0, 0, none⟩) kg).trans k0, ((hz.alloc hz.size _).cell (p := ⟨kb, ko + 4, none⟩) kh).trans k1⟩ (fun hS2 => ?_)
      clear hK K
      try simp only [Act.put, List.setIfInBounds_toArray, List.set_cons_zero, List.set_cons_succ]
      refine takeY 3 (i := 10) (v := ?v10c) rfl rfl (by kernel_rfl) (by kernel_rfl) (by kernel_rfl) (fun _ _ _ h => h) (by kernel_rfl) ?y10c hS2 ?_
      case y10c =>
        intro w' hw'; (try dsimp only at hw'); obtain ⟨e0, e1, e2, e3, e4, e5, e6, e7⟩ := hw'; go_simp; try with_reducible rfl
      simp only [Act.put, List.setIfInBounds_toArray, List.set_cons_zero, List.set_cons_succ]
      refine wpAnyH_done (by kernel_rfl) ?_ _
      have HZ := Lib.hid (below_on HBB.out.1 hz)
      have HZs := Lib.hid hz.size
      have HZ2 := Lib.hid (HBB.out.2.trans (hz.mono (Nat.le_trans hB HBB.out.1.size)))
      have hz5 := hz.alloc hz.size (.cells #[.string (kwB 4), .string (⟨#[102]⟩ ++ fmtB f : ByteArray)] 9)
      have d0 := (hz5.cell (p := ⟨w.heap.size, 0, none⟩) hg).trans c0
      have d2 := (hz5.cell (p := ⟨w.heap.size, 2, none⟩) hg).trans c2
      have d3 := (hz5.cell (p := ⟨w.heap.size, 3, none⟩) hg).trans c3
      have d4 := (hz5.cell (p := ⟨w.heap.size, 4, none⟩) hg).trans c4
      have HO := Lib.hid (OwnS.two w2 w1.heap.size hz.size (kwB 4) (⟨#[102]⟩ ++ fmtB f : ByteArray))
      have HY : Hid (Below w.heap.size w (w2.alloc (.cells #[.string (kwB 4), .string (⟨#[102]⟩ ++ fmtB f : ByteArray)] 9))) := Lib.hid (HZ.out.alloc HZ.out.size _)
      have HY2 : Hid (Below B w (w2.alloc (.cells #[.string (kwB 4), .string (⟨#[102]⟩ ++ fmtB f : ByteArray)] 9))) := Lib.hid (HZ2.out.alloc (Nat.le_trans hB HZ.out.size) _)
      clear hz hz5 hs0 hS1 c0 c1 c2 c3 c4 k0 k1 kg kh
      go_wp2_with fail
      refine (iFmtP _ B PA Pn Pc ps (HP.out.below HY2.out) (Nat.le_trans hB HY.out.size) HNN.out.2 true ⟨fun _ => HOk.out, fun _ => rfl⟩ (HPw.out.below HY.out)).mono ?_
      rintro e w3 ⟨rfl, hb3⟩
      have HO3 := Lib.hid (OwnS.below HO.out hb3)
      have HB3 := Lib.hid (below_on HY.out hb3)
      have HS3 : Hid (w1.heap.size ≤ w3.heap.size) := Lib.hid (by have h1 := HZs.out; have h2 := hb3.size; simp at h2; omega)
      clear hb3 d0 d2 d3 d4
      go_wp2_with (at_builtin; refine wp_appS w3 (by rfl) (.tmp 37) (.tmp 41) (by rfl) w1.heap.size _ _ (by rfl) HO3.out _ [fmtP ps true] (by rfl) 1 1 rfl (by rfl) (by simp) HS3.out ?_)
      intro v1 w4 hown hb4
      have HO4 := Lib.hid hown
      have HB4 := Lib.hid (HB3.out.trans (hb4.mono HBB.out.1.size))
      clear hown hb4
      go_wp2_with fail
      refine (join_own w4 w1.heap.size _ _ ⟨#[32]⟩ HO4.out (by simp) (by simp) (words_len _ 60 hwl (by simp) (by decide))).mono ?_
      rintro e w5 ⟨rfl, hb5⟩
      have HB5 := Lib.hid (below_on HB4.out hb5)
      clear hb5 hwl
      rw [words3 (k := 4) (f := f) (v := v) (ls := ls) (ps := ps) (x := fmtP ps true) (by simp [restT, fmtP])]
      go_wp2
      go_ret
      exact ⟨rfl, HB5.out⟩
end Go.Proofs.YtadjoiahllekdaaGreatDoor.num
namespace Go.Proofs.YtadjoiahllekdaaGreatDoor.num
set_option maxRecDepth 20000
open Go.RowKit
set_option linter.unusedVariables false
set_option linter.unusedSimpArgs false

theorem sWord (w : World) (op : Int) (h : op = 1 ∨ op = 2 ∨ op = 3 ∨ op = 4) : Calls Tryz.prog 72 #[.int .i64 op] w fun e w' => e = .returned (.string (owB op.toNat)) ∧ w' = w := by
  rcases h with rfl | rfl | rfl | rfl <;>
    (go_enter Tryz.func72, Tryz.ntmps72
     go_wp2
     go_ret
     exact ⟨rfl, rfl⟩)
set_option maxRecDepth 20000 in
set_option maxHeartbeats 3200000 in
theorem sFmtEW (w : World) (B : Nat) (A : Option Addr) (n c : Nat) (ns : List Nd) (hi : Nodes w B A n ns) (hB : B ≤ w.heap.size) (hn : n ≤ 1048577) (hN : ShortN ns) (q : Bool) (hq : q = true ↔ IsE (datN ns)) :
    Calls Tryz.prog 24 #[.slice A n c] w fun e w' => e = .returned (.string (fmtE (datN ns) q)) ∧ Below w.heap.size w w' := by
  have HX := Lib.hid hi
  have HN := Lib.hid hN
  have HC := Lib.hid (sIsEW w B A n c ns hi hB hn hN q hq)
  have HQ := Lib.hid hq
  have HLs := Lib.hid (lens_dat hi hN)
  clear hi hN hq
  go_enter Tryz.func24, Tryz.ntmps24
  go_wp2_with fail
  refine HC.out.mono ?_
  rintro e w0 ⟨rfl, hb0⟩
  have HB0 := Lib.hid hb0
  clear hb0 HC
  cases q
  · go_wp2
    go_ret
    exact ⟨rfl, HB0.out⟩
  have HE : Hid (IsE (datN ns)) := Lib.hid (HQ.out.1 (by first | rfl | trivial))
  go_wp2
  go_loopw [3, 4] (fun s i wr => ∃ k : Nat, k ≤ n ∧ i = .int .i64 k ∧ s = .string (preE (datN ns) k) ∧ Below w.heap.size w wr) (fun _ i _ => n - (intOf i).toNat)
  case atStart => exact ⟨0, Nat.zero_le _, rfl, rfl, HB0.out⟩
  case round =>
    obtain ⟨k, hk, rfl, rfl, hbel⟩ := hrel
    have HB := Lib.hid hbel
    have hpre := preE_size HE.out HLs.out k
    by_cases hlt : k < n
    · obtain ⟨b1, off, ⟨op, t⟩, rfl, hb1, hat, hwf, g0, g1, g2, g3, g4, g5⟩ := HX.out.at k hlt
      dsimp only at g0 g1 g2 g3 g4 g5
      have hbw : b1 < w.heap.size := Nat.lt_of_lt_of_le hb1 hB
      have g0 := (hbel.cell (p := ⟨b1, off + k * 6, none⟩) hbw).trans g0
      have g1 := (hbel.cell (p := ⟨b1, off + k * 6 + 1, none⟩) hbw).trans g1
      have g2 := (hbel.cell (p := ⟨b1, off + k * 6 + 2, none⟩) hbw).trans g2
      have g3 := (hbel.cell (p := ⟨b1, off + k * 6 + 3, none⟩) hbw).trans g3
      have g4 := (hbel.cell (p := ⟨b1, off + k * 6 + 4, none⟩) hbw).trans g4
      have g5 := (hbel.cell (p := ⟨b1, off + k * 6 + 5, none⟩) hbw).trans g5
      have hdat : (datN ns)[k]? = some ⟨op, t.dat⟩ := by unfold datN; rw [List.getElem?_map, hat]; rfl
      have hnode := HE.out.node hdat
      have hsz1 := nodeB_size hnode (HLs.out _ (List.mem_of_getElem? hdat))
      have hsh : t.Short := HN.out _ (List.mem_of_getElem? hat)
      have HFm : Hid (∀ W, Below wr.heap.size wr W → IsW t.dat → Calls Tryz.prog 22 #[.agg #[.int .i64 t.kind, .int .i64 t.field, .int .i64 t.value, .slice t.LA t.Ln t.Lc, .slice t.PA t.Pn t.Pc]] W fun e w' => e = .returned (.string (fmtW t.dat true)) ∧ Below W.heap.size W w') := Lib.hid fun W h hw => sFmtW W B t (hwf.2.below ((hbel.mono hB).trans (h.mono (Nat.le_trans hB hbel.size)))) (Nat.le_trans (Nat.le_trans hB hbel.size) h.size) hsh true ⟨fun _ => hw, fun _ => rfl⟩
      have hlt' : (k : Int) < (n : Int) := by omega
      obtain ⟨nb, hnb⟩ : ∃ nb, nodeB ⟨op, t.dat⟩ = nb := ⟨_, rfl⟩
      rw [hnb] at hsz1
      have HNb := Lib.hid hnb
      have HNode := Lib.hid hnode
      by_cases hk0 : k = 0
      · have hstep : preE (datN ns) k ++ nb = preE (datN ns) (k + 1) := by
          rw [← hnb]
          subst hk0
          rw [preE_zero]
          exact preE_one hdat
        obtain ⟨sb, hsb⟩ : ∃ sb : ByteArray, sb = preE (datN ns) k := ⟨_, rfl⟩
        rw [← hsb] at hstep hpre ⊢
        have HStep := Lib.hid hstep
        have hkn : ¬ ((0 : Int) < (k : Int)) := by omega
        have hc1 : ¬ (9223372036854775807 < sb.size + nb.size) := by omega
        clear hsb hat hbel hpre hstep hk0 hnb hnode hdat hsh hwf
        rcases HNode.out with ⟨e0, hw⟩ | ⟨hop, _⟩
        · obtain rfl : op = 0 := e0
          have HFw : Hid (fmtW t.dat true = nb) := Lib.hid ((fmtW_node (nd := ⟨0, t.dat⟩) rfl).trans HNb.out)
          have HFm2 : Hid (∀ W, Below wr.heap.size wr W → Calls Tryz.prog 22 #[.agg #[.int .i64 t.kind, .int .i64 t.field, .int .i64 t.value, .slice t.LA t.Ln t.Lc, .slice t.PA t.Pn t.Pc]] W fun e w' => e = .returned (.string nb) ∧ Below W.heap.size W w') := Lib.hid fun W h => by rw [← HFw.out]; exact HFm.out W h hw
          clear hw
          go_wp2_with fail
          refine (HFm2.out _ (Below.refl _ _)).mono ?_
          rintro e w1 ⟨rfl, hb⟩
          have HB1 := Lib.hid (below_on HB.out hb)
          clear hb g0 g1 g2 g3 g4 g5
          go_wp2
          go_roundw
          case rel => exact ⟨k + 1, by omega, by go_num, by rw [HStep.out], HB1.out⟩
          case measure => simp [intOf]; omega
        · have hop' : op = 1 ∨ op = 2 ∨ op = 3 ∨ op = 4 := hop
          have HWd : Hid (∀ W, Calls Tryz.prog 72 #[.int .i64 op] W fun e w' => e = .returned (.string nb) ∧ w' = W) := Lib.hid fun W => by
            rw [← HNb.out, ← owB_node (nd := ⟨op, t.dat⟩) (by show op ≠ 0; omega)]
            exact sWord W op hop'
          have f0 : (op == 0) = false := by simp; omega
          clear hop hop'
          go_wp2_with fail
          refine (HWd.out _).mono ?_
          rintro e w1 ⟨rfl, rfl⟩
          clear g0 g1 g2 g3 g4 g5
          go_wp2
          go_roundw
          case rel => exact ⟨k + 1, by omega, by go_num, by rw [HStep.out], HB.out⟩
          case measure => simp [intOf]; omega
      · have hstep : preE (datN ns) k ++ ⟨#[59, 32]⟩ ++ nb = preE (datN ns) (k + 1) := by
          rw [← hnb]
          exact preE_step (by omega) hdat
        obtain ⟨sb, hsb⟩ : ∃ sb : ByteArray, sb = preE (datN ns) k := ⟨_, rfl⟩
        rw [← hsb] at hstep hpre ⊢
        have HStep := Lib.hid hstep
        have hkn : (0 : Int) < (k : Int) := by omega
        have hc0 : ¬ (9223372036854775807 < sb.size + 2) := by omega
        have hc1 : ¬ (9223372036854775807 < sb.size + 2 + nb.size) := by omega
        clear hsb hat hbel hpre hstep hk0 hnb hnode hdat hsh hwf
        rcases HNode.out with ⟨e0, hw⟩ | ⟨hop, _⟩
        · obtain rfl : op = 0 := e0
          have HFw : Hid (fmtW t.dat true = nb) := Lib.hid ((fmtW_node (nd := ⟨0, t.dat⟩) rfl).trans HNb.out)
          have HFm2 : Hid (∀ W, Below wr.heap.size wr W → Calls Tryz.prog 22 #[.agg #[.int .i64 t.kind, .int .i64 t.field, .int .i64 t.value, .slice t.LA t.Ln t.Lc, .slice t.PA t.Pn t.Pc]] W fun e w' => e = .returned (.string nb) ∧ Below W.heap.size W w') := Lib.hid fun W h => by rw [← HFw.out]; exact HFm.out W h hw
          clear hw
          go_wp2_with fail
          refine (HFm2.out _ (Below.refl _ _)).mono ?_
          rintro e w1 ⟨rfl, hb⟩
          have HB1 := Lib.hid (below_on HB.out hb)
          clear hb g0 g1 g2 g3 g4 g5
          go_wp2
          go_roundw
          case rel => exact ⟨k + 1, by omega, by go_num, by rw [HStep.out], HB1.out⟩
          case measure => simp [intOf]; omega
        · have hop' : op = 1 ∨ op = 2 ∨ op = 3 ∨ op = 4 := hop
          have HWd : Hid (∀ W, Calls Tryz.prog 72 #[.int .i64 op] W fun e w' => e = .returned (.string nb) ∧ w' = W) := Lib.hid fun W => by
            rw [← HNb.out, ← owB_node (nd := ⟨op, t.dat⟩) (by show op ≠ 0; omega)]
            exact sWord W op hop'
          have f0 : (op == 0) = false := by simp; omega
          clear hop hop'
          go_wp2_with fail
          refine (HWd.out _).mono ?_
          rintro e w1 ⟨rfl, rfl⟩
          clear g0 g1 g2 g3 g4 g5
          go_wp2
          go_roundw
          case rel => exact ⟨k + 1, by omega, by go_num, by rw [HStep.out], HB.out⟩
          case measure => simp [intOf]; omega
    · obtain rfl : k = n := by omega
      have hfin : preE (datN ns) k = fmtE (datN ns) true := by
        unfold preE fmtE
        rw [List.take_of_length_le (by unfold datN; rw [List.length_map, HX.out.len]; exact Nat.le_refl _), if_pos rfl]
      obtain ⟨z, hz⟩ : ∃ z, fmtE (datN ns) true = z := ⟨_, rfl⟩
      rw [hfin, hz]
      have HZ := Lib.hid hz
      clear hbel hfin hpre hz
      go_wp2
      go_ret
      exact ⟨by show Ending.returned (.string z) = _; rw [HZ.out], HB.out⟩

theorem sFmtE (w : World) (B : Nat) (A : Option Addr) (n c : Nat) (ns : List Nd) (hi : Nodes w B A n ns) (hB : B ≤ w.heap.size) (hn : n ≤ 1048576) (hN : ShortN ns) (q : Bool) (hq : q = true ↔ IsE (datN ns)) :
    Calls Tryz.prog 24 #[.slice A n c] w fun e w' => e = .returned (.string (fmtE (datN ns) q)) ∧ Below w.heap.size w w' := sFmtEW w B A n c ns hi hB (Nat.le_succ_of_le hn) hN q hq
set_option maxRecDepth 20000 in
theorem iNodeT (w : World) (B : Nat) (op : Int) (t : Wi) (hi : WiIn w B t) (hB : B ≤ w.heap.size) (hn : t.Short) (h : (op = 0 ∧ IsW t.dat) ∨ ((op = 1 ∨ op = 2 ∨ op = 3 ∨ op = 4) ∧ NoW t.dat)) (hpow : Pow w) (hkw : Kw w) (how : Ow w) :
    Calls Tryz.prog 68 #[.agg #[.int .i64 op, .int .i64 t.kind, .int .i64 t.field, .int .i64 t.value, .slice t.LA t.Ln t.Lc, .slice t.PA t.Pn t.Pc]] w fun e w' => e = .returned (.string (nodeB ⟨op, t.dat⟩)) ∧ Below w.heap.size w w' := by
  have hb1 : Below w.heap.size w (w.alloc (.cells #[.int .i64 op, .int .i64 t.kind, .int .i64 t.field, .int .i64 t.value, .slice t.LA t.Ln t.Lc, .slice t.PA t.Pn t.Pc] 92)) := (Below.refl _ w).alloc (Nat.le_refl _) _
  have HB1 := Lib.hid hb1
  rcases h with ⟨rfl, hw⟩ | ⟨hop, _⟩
  · have HF := Lib.hid (iFmtW (w.alloc (.cells #[.int .i64 0, .int .i64 t.kind, .int .i64 t.field, .int .i64 t.value, .slice t.LA t.Ln t.Lc, .slice t.PA t.Pn t.Pc] 92)) B t (hi.below (hb1.mono hB)) (by simp; omega) hn true ⟨fun _ => hw, fun _ => rfl⟩ (hpow.below hb1) (hkw.below hb1))
    have HNb : Hid (fmtW t.dat true = nodeB ⟨0, t.dat⟩) := Lib.hid (fmtW_node (nd := ⟨0, t.dat⟩) rfl)
    rw [← HNb.out]
    generalize fmtW t.dat true = nb at *
    unfold Wi.val at HF
    clear hi hb1 hpow hkw how hw HNb
    go_enter Tryz.func68, Tryz.ntmps68
    go_wp2_with fail
    refine HF.out.mono ?_
    rintro e w1 ⟨rfl, hb⟩
    have HB2 := Lib.hid (below_on HB1.out hb)
    clear hb
    go_wp2
    go_ret
    exact ⟨rfl, HB2.out⟩
  · have HNb : Hid (owB op.toNat = nodeB ⟨op, t.dat⟩) := Lib.hid (owB_node (nd := ⟨op, t.dat⟩) (by show op ≠ 0; omega))
    rw [← HNb.out]
    obtain ⟨b, off, c, q0, q1, q2, q3⟩ := how.below hb1
    clear hi hb1 hpow hkw how HNb
    rcases hop with rfl | rfl | rfl | rfl
    · have q4 := q3 1 (by decide)
      clear q3
      go_enter Tryz.func68, Tryz.ntmps68
      go_wp2
      go_ret
      exact ⟨rfl, HB1.out⟩
    · have q4 := q3 2 (by decide)
      clear q3
      go_enter Tryz.func68, Tryz.ntmps68
      go_wp2
      go_ret
      exact ⟨rfl, HB1.out⟩
    · have q4 := q3 3 (by decide)
      clear q3
      go_enter Tryz.func68, Tryz.ntmps68
      go_wp2
      go_ret
      exact ⟨rfl, HB1.out⟩
    · have q4 := q3 4 (by decide)
      clear q3
      go_enter Tryz.func68, Tryz.ntmps68
      go_wp2
      go_ret
      exact ⟨rfl, HB1.out⟩

def wordE (ns : List Nd) (j : Nat) : ByteArray := nodeB ((datN ns).getD j ⟨0, ⟨0, 0, 0, [], []⟩⟩)
theorem wordE_at {ns : List Nd} {k : Nat} {x : Nd} (h : ns[k]? = some x) : wordE ns k = nodeB x.dat := by
  unfold wordE datN
  rw [List.getD_eq_getElem?_getD, List.getElem?_map, h]; rfl
set_option maxRecDepth 20000 in
set_option maxHeartbeats 3200000 in
theorem iJoinE (w : World) (B : Nat) (A : Option Addr) (n cc : Nat) (ns : List Nd) (hi : Nodes w B A n ns) (hB : B ≤ w.heap.size) (hn : n ≤ 1048576) (hN : ShortN ns) (hE : IsE (datN ns)) (hpow : Pow w) (hkw : Kw w) (how : Ow w) :
    Calls Tryz.prog 67 #[.slice A n cc, .string ⟨#[59, 32]⟩, .func (.func 68) #[] #[]] w fun e w' => e = .returned (.string ⟨(exprT (datN ns)).toArray⟩) ∧ Below w.heap.size w w' := by
  have hmk := run_make_row' (P := Tryz.prog) 86 9 (.string ⟨#[]⟩) 16 Tryz.underlying86 info_string rfl .i64 .i64 n (by omega) (by omega)
  have HX := Lib.hid hi
  have HLs := Lib.hid (lens_dat hi hN)
  have HNo : Hid (∀ (k : Nat) (op : Int) (t : Wi) (W : World), ns[k]? = some ⟨op, t⟩ → Below w.heap.size w W → Calls Tryz.prog 68 #[.agg #[.int .i64 op, .int .i64 t.kind, .int .i64 t.field, .int .i64 t.value, .slice t.LA t.Ln t.Lc, .slice t.PA t.Pn t.Pc]] W fun e w' => e = .returned (.string (nodeB ⟨op, t.dat⟩)) ∧ Below W.heap.size W w') := Lib.hid fun k op t W hk h => by
    have hm := List.mem_of_getElem? hk
    exact iNodeT W B op t ((hi.x _ hm).2.below (h.mono hB)) (Nat.le_trans hB h.size) (hN _ hm) (hE.node (k := k) (nd := ⟨op, t.dat⟩) (by unfold datN; rw [List.getElem?_map, hk]; rfl)) (hpow.below h) (hkw.below h) (how.below h)
  have HE := Lib.hid hE
  clear hi hpow hkw how hN hE
  go_enter Tryz.func67, Tryz.ntmps67
  go_wp2
  clear hmk
  go_loopw [15] (fun i wr => ∃ k : Nat, k ≤ n ∧ i = .int .i64 k ∧ wr.rowIs w.heap.size 9 n (fun j => if j < k then .string (wordE ns j) else .string ⟨#[]⟩) ∧ Below w.heap.size w wr) (fun i _ => n - (intOf i).toNat)
  case atStart =>
    exact ⟨0, Nat.zero_le _, rfl, by simpa using World.rowIs_made w (.string ⟨#[]⟩) n 9, (Below.refl _ _).alloc (Nat.le_refl _) _⟩
  case round =>
    obtain ⟨k, hk, rfl, hrow, hbel⟩ := hrel
    have HR := Lib.hid hrow
    have HB := Lib.hid hbel
    by_cases hlt : k < n
    · obtain ⟨b1, off, ⟨op, t⟩, rfl, hb1, hat, hwf, g0, g1, g2, g3, g4, g5⟩ := HX.out.at k hlt
      dsimp only at g0 g1 g2 g3 g4 g5
      have hbw : b1 < w.heap.size := Nat.lt_of_lt_of_le hb1 hB
      have g0 := (hbel.cell (p := ⟨b1, off + k * 6, none⟩) hbw).trans g0
      have g1 := (hbel.cell (p := ⟨b1, off + k * 6 + 1, none⟩) hbw).trans g1
      have g2 := (hbel.cell (p := ⟨b1, off + k * 6 + 2, none⟩) hbw).trans g2
      have g3 := (hbel.cell (p := ⟨b1, off + k * 6 + 3, none⟩) hbw).trans g3
      have g4 := (hbel.cell (p := ⟨b1, off + k * 6 + 4, none⟩) hbw).trans g4
      have g5 := (hbel.cell (p := ⟨b1, off + k * 6 + 5, none⟩) hbw).trans g5
      have HT := Lib.hid hat
      have hlt' : (k : Int) < (n : Int) := by omega
      have HBx : Hid (Below wr.heap.size wr (wr.alloc (.cells #[.int .i64 op, .int .i64 t.kind, .int .i64 t.field, .int .i64 t.value, .slice t.LA t.Ln t.Lc, .slice t.PA t.Pn t.Pc] 92))) := Lib.hid ((Below.refl _ _).alloc (Nat.le_refl _) _)
      have HC := Lib.hid (HNo.out k op t _ hat (HB.out.trans (HBx.out.mono HB.out.size)))
      clear hrow hbel hat hwf
      go_wp2_with fail
      refine HC.out.mono ?_
      rintro e w1 ⟨rfl, hb⟩
      have hb' := below_on HBx.out hb
      have hrow1 := rowIs_below HR.out hb' (World.rowIs.lt HR.out)
      have z1 : w1.cell? ⟨w.heap.size, k, none⟩ = some (.string ⟨#[]⟩) := by rw [World.rowIs.cell hrow1 hlt, if_neg (by omega)]
      have z2 := World.rowIs.frozen hrow1 k
      have HR1 := Lib.hid hrow1
      have HB1 := Lib.hid (HB.out.trans (hb'.mono HB.out.size))
      clear hb hb' hrow1 g0 g1 g2 g3 g4 g5 HC
      go_wp2
      go_roundw
      case rel =>
        refine ⟨k + 1, by omega, by go_num, (World.rowIs.set HR1.out k (.string (nodeB ⟨op, t.dat⟩))).congr (fun j _ => ?_), HB1.out.setCell (Nat.le_refl _) _⟩
        by_cases h1 : j = k
        · subst h1; rw [if_pos rfl, if_pos (by omega), wordE_at HT.out]; rfl
        · by_cases h2 : j < k
          · rw [if_neg h1, if_pos h2, if_pos (by omega)]
          · rw [if_neg h1, if_neg h2, if_neg (by omega)]
      case measure => simp [intOf]; omega
    · obtain rfl : k = n := by omega
      obtain ⟨xs, hxs⟩ : ∃ xs : List ByteArray, xs = (datN ns).map nodeB := ⟨_, rfl⟩
      have hxl : xs.length = k := by rw [hxs, List.length_map]; unfold datN; rw [List.length_map]; exact HX.out.len
      have hmap : xs.map (·.data.toList) = (datN ns).map nodeT := by rw [hxs, List.map_map]; rfl
      have hcells : ∀ (j : Nat) x, xs[j]? = some x → wr.cell? ⟨w.heap.size, 0 + j, none⟩ = some (.string x) := by
        intro j x hx
        have hj : j < k := by
          rcases Nat.lt_or_ge j xs.length with h' | h'
          · omega
          · rw [List.getElem?_eq_none h'] at hx; cases hx
        rw [hxs, List.getElem?_map] at hx
        obtain ⟨p, hp, rfl⟩ := Option.map_eq_some_iff.1 hx
        unfold datN at hp
        rw [List.getElem?_map] at hp
        obtain ⟨y, hy, rfl⟩ := Option.map_eq_some_iff.1 hp
        rw [Nat.zero_add, World.rowIs.cell hrow hj, if_pos hj, wordE_at hy]
      have hsz : (Lib.join (xs.map (·.data.toList)) (⟨#[59, 32]⟩ : ByteArray).data.toList).length ≤ 140737488355328 := by
        rw [hmap]
        have := exprT_len HE.out HLs.out k
        rw [List.take_of_length_le (by unfold datN; rw [List.length_map, HX.out.len]; exact Nat.le_refl _)] at this
        show (exprT (datN ns)).length ≤ _
        omega
      have hJ : Calls Tryz.prog 64 #[.slice (some ⟨w.heap.size, 0, none⟩) k k, .string ⟨#[59, 32]⟩] wr fun e w' => e = .returned (.string ⟨(exprT (datN ns)).toArray⟩) ∧ Below wr.heap.size wr w' := by
        have h0 := Tryz.strings_Join w.heap.size 0 k xs ⟨#[59, 32]⟩ wr hcells (World.rowIs.lt hrow) (by omega) (by omega) hsz
        rw [hxl, hmap] at h0
        exact h0
      have HJ := Lib.hid hJ
      clear hrow hbel hcells hJ hsz hmap hxl hxs
      go_wp2_with fail
      refine HJ.out.mono ?_
      rintro e w1 ⟨rfl, hb⟩
      have HB1 := Lib.hid (HB.out.trans (hb.mono HB.out.size))
      clear hb
      go_wp2
      go_ret
      exact ⟨rfl, HB1.out⟩
theorem iFmtEW (w : World) (B : Nat) (A : Option Addr) (n c : Nat) (ns : List Nd) (hi : Nodes w B A n ns) (hB : B ≤ w.heap.size) (hnc : n ≤ c) (hc : c ≤ 9223372036854775807) (hn : n ≤ 1048576) (hN : ShortN ns) (q : Bool) (hq : q = true ↔ IsE (datN ns)) (hpow : Pow w) (hkw : Kw w) (how : Ow w) :
    Calls Tryz.prog 20 #[.slice A n c] w fun e w' => e = .returned (.string (fmtE (datN ns) q)) ∧ Below w.heap.size w w' := by
  have HC := Lib.hid (iIsEW w B A n c ns hi hB hnc hc hN q hq)
  have HJ : Hid (∀ W, Below w.heap.size w W → IsE (datN ns) → Calls Tryz.prog 67 #[.slice A n c, .string ⟨#[59, 32]⟩, .func (.func 68) #[] #[]] W fun e w' => e = .returned (.string ⟨(exprT (datN ns)).toArray⟩) ∧ Below W.heap.size W w') := Lib.hid fun W h hE => iJoinE W B A n c ns (hi.below (h.mono hB)) (Nat.le_trans hB h.size) hn hN hE (hpow.below h) (hkw.below h) (how.below h)
  have HQ := Lib.hid hq
  clear hi hN hq hpow hkw how
  go_enter Tryz.func20, Tryz.ntmps20
  go_wp2_with fail
  refine HC.out.mono ?_
  rintro e w0 ⟨rfl, hb0⟩
  have HB0 := Lib.hid hb0
  clear hb0 HC
  cases q
  · go_wp2
    go_ret
    exact ⟨rfl, HB0.out⟩
  · have HF : Hid (fmtE (datN ns) true = ⟨(exprT (datN ns)).toArray⟩) := Lib.hid rfl
    have hJ2 := HJ.out w0 HB0.out (HQ.out.1 (by first | rfl | trivial))
    obtain ⟨z, hz⟩ : ∃ z : ByteArray, ⟨(exprT (datN ns)).toArray⟩ = z := ⟨_, rfl⟩
    rw [hz] at hJ2
    have HZ := Lib.hid hz
    have HJ2 := Lib.hid hJ2
    clear hz hJ2
    go_wp2_with fail
    refine HJ2.out.mono ?_
    rintro e w1 ⟨rfl, hb⟩
    have HB1 := Lib.hid (below_on HB0.out hb)
    clear hb
    go_wp2
    go_ret
    exact ⟨by show Ending.returned (.string z) = _; rw [HF.out, HZ.out], HB1.out⟩
end Go.Proofs.YtadjoiahllekdaaGreatDoor.num
namespace Go.Proofs.YtadjoiahllekdaaGreatDoor.num
set_option maxRecDepth 20000
open Go.RowKit
set_option linter.unusedVariables false
set_option linter.unusedSimpArgs false

theorem kwB_list (i : Nat) : (kwB i).data.toList = kwT.getD i [] := by simp [kwB]
theorem kw_beq (i : Nat) (s : ByteArray) (b : Bool) (h : b = true ↔ s.data.toList = kwT.getD i []) : ((kwB i).toList == s.toList) = b := by
  rw [ByteArray.toList_eq, ByteArray.toList_eq, kwB_list]
  cases b
  · have : ¬ kwT.getD i [] = s.data.toList := fun e => by
      have := h.2 e.symm
      cases this
    exact beq_eq_false_iff_ne.2 this
  · exact beq_iff_eq.2 (h.1 rfl).symm
/-- The first words that a text is not. -/
def NotYet (s : List UInt8) (k : Nat) : Prop := ∀ i, i < k → s ≠ kwT.getD i []
theorem kindI_none {s : List UInt8} (h : NotYet s 5) : kindI s = -1 := by
  unfold kindI
  rw [if_neg (h 0 (by omega)), if_neg (h 1 (by omega)), if_neg (h 2 (by omega)), if_neg (h 3 (by omega)), if_neg (h 4 (by omega))]
theorem kindI_at {s : List UInt8} {k : Nat} (h : NotYet s k) (hk : k < 5) (e : s = kwT.getD k []) : kindI s = k := by
  unfold kindI
  rcases (show k = 0 ∨ k = 1 ∨ k = 2 ∨ k = 3 ∨ k = 4 by omega) with rfl | rfl | rfl | rfl | rfl
  · rw [if_pos e]; rfl
  · rw [if_neg (h 0 (by omega)), if_pos e]; rfl
  · rw [if_neg (h 0 (by omega)), if_neg (h 1 (by omega)), if_pos e]; rfl
  · rw [if_neg (h 0 (by omega)), if_neg (h 1 (by omega)), if_neg (h 2 (by omega)), if_pos e]; rfl
  · rw [if_neg (h 0 (by omega)), if_neg (h 1 (by omega)), if_neg (h 2 (by omega)), if_neg (h 3 (by omega)), if_pos e]; rfl

set_option maxRecDepth 20000 in
theorem kindOf_c (s : ByteArray) (w : World) (hkw : Kw w) :
    Calls Tryz.prog 109 #[.string s] w fun e w' => e = .returned (.int .i64 (kindI s.data.toList)) ∧ Below w.heap.size w w' := by
  obtain ⟨kb, ko, kc, k0, kg, kh, k1⟩ := hkw
  have HK := Lib.hid k1
  clear k1
  go_enter Tryz.func109, Tryz.ntmps109
  go_wp2
  go_loopw [7] (fun iv wr => ∃ k : Nat, k ≤ 5 ∧ iv = .int .i64 k ∧ NotYet s.data.toList k ∧ Below w.heap.size w wr) (fun iv _ => 5 - (intOf iv).toNat)
  case atStart => exact ⟨0, by omega, rfl, fun i hi => by omega, Below.refl _ _⟩
  case round =>
    obtain ⟨k, hk, rfl, hny, hbel⟩ := hrel
    have HN := Lib.hid hny
    have HB := Lib.hid hbel
    clear hny hbel
    by_cases hk5 : k < 5
    · obtain ⟨b, hb⟩ := bool_of (s.data.toList = kwT.getD k [])
      have hcell : wr.cell? ⟨kb, ko + k, none⟩ = some (.string (kwB k)) := (HB.out.cell (p := ⟨kb, ko + k, none⟩) kh).trans (HK.out k hk5)
      have he := kw_beq k s b hb
      have HBb := Lib.hid hb
      have hd : decide ((k : Int) < 5) = true := by simp; omega
      clear hb
      have hny' : b = false → NotYet s.data.toList (k + 1) := fun e i hi => by
        rcases Nat.lt_or_ge i k with h | h
        · exact HN.out i h
        · obtain rfl : i = k := by omega
          intro e2
          rw [HBb.out.2 e2] at e
          cases e
      have hyes : b = true → kindI s.data.toList = k := fun e => kindI_at HN.out hk5 (HBb.out.1 e)
      have HNy := Lib.hid hny'
      have HYe := Lib.hid hyes
      clear hny' hyes HBb
      cases b
      · go_wp2
        go_roundw
        case rel => exact ⟨k + 1, by omega, by go_num, HNy.out rfl, HB.out⟩
        case measure => simp [intOf]; omega
      · go_wp2
        go_ret
        exact ⟨by rw [HYe.out trivial]; rfl, HB.out⟩
    · have hd : decide ((k : Int) < 5) = false := by simp; omega
      go_wp2
      go_ret
      obtain rfl : k = 5 := by omega
      exact ⟨by rw [kindI_none HN.out]; rfl, HB.out⟩

end Go.Proofs.YtadjoiahllekdaaGreatDoor.num
namespace Go.Proofs.YtadjoiahllekdaaGreatDoor.num
set_option maxRecDepth 20000
open Go.RowKit
set_option linter.unusedVariables false

/-- The library's variable MaxLen holds some int. -/
def Mx (w : World) : Prop := ∃ m, w.cell? ⟨2, 0, none⟩ = some (.int .i64 m)
theorem Mx.below {w w' : World} (h : Mx w) (hb : Below w.heap.size w w') : Mx w' := by
  obtain ⟨m, hm⟩ := h
  exact ⟨m, (hb.cell (p := ⟨2, 0, none⟩) (World.block_lt_of_cell? w _ hm)).trans hm⟩
theorem piece_le {c : UInt8} {l p : List UInt8} (h : p ∈ pieces c l) : p.length ≤ l.length := by
  have h1 := pieces_len c l
  obtain ⟨x, t, e⟩ := pieces_ne c l
  have h2 : ∀ (L : List (List UInt8)), p ∈ L → p.length ≤ (L.map List.length).sum := by
    intro L
    induction L with
    | nil => intro h; cases h
    | cons a L ih =>
      intro h
      simp only [List.map_cons, List.sum_cons]
      rcases List.mem_cons.1 h with rfl | h
      · omega
      · have := ih h; omega
  have h3 := h2 _ h
  rw [e] at h1 h3
  simp only [List.length_cons] at h1
  omega
theorem pieces_count (c : UInt8) (l : List UInt8) : (pieces c l).length ≤ l.length + 1 := by have := pieces_len c l; omega

theorem split_c (s : ByteArray) (hs : s.size ≤ 1048576) (w : World) (hm : Mx w) :
    Calls Tryz.prog 100 #[.string s, .string ⟨#[44]⟩] w fun e w' => ∃ ps : List ByteArray, ps.map (·.data.toList) = pieces 44 s.data.toList ∧ e = .returned (.slice (some ⟨w.heap.size, 0, none⟩) ps.length ps.length) ∧ w.alloc (.cells (ps.map Value.string).toArray 9) = w' := by
  obtain ⟨m, hm⟩ := hm
  refine (Tryz.strings_Split s ⟨#[44]⟩ m w (by omega) hm (by decide)).mono fun e w' ⟨he, hw⟩ => ?_
  refine ⟨Lib.splitB ⟨#[44]⟩ 0 (Lib.countB s ⟨#[44]⟩) s, splitB_pieces 44 s, ?_, hw.symm⟩
  rw [he, Lib.splitB_all ⟨#[44]⟩ (by decide) 0 _ s rfl]

theorem str_at {ps : List ByteArray} {L : List (List UInt8)} (h : ps.map (·.data.toList) = L) {k : Nat} (hk : k < ps.length) : ∃ p, ps[k]? = some p ∧ L[k]? = some p.data.toList := by
  refine ⟨ps[k], List.getElem?_eq_getElem hk, ?_⟩
  rw [← h, List.getElem?_map, List.getElem?_eq_getElem hk]; rfl
theorem int_step {L : List (List UInt8)} {k n : Nat} {p : List UInt8} (hp : L[k]? = some p) (j : Nat) :
    (if j = k then (Value.int .i64 (pVal p)) else if j < k then .int .i64 ((L.map pVal).getD j 0) else .int .i64 0) = (if j < k + 1 then Value.int .i64 ((L.map pVal).getD j 0) else .int .i64 0) := by
  by_cases h1 : j = k
  · subst h1
    rw [if_pos rfl, if_pos (by omega)]
    simp [List.getD_eq_getElem?_getD, hp]
  · by_cases h2 : j < k
    · rw [if_neg h1, if_pos h2, if_pos (by omega)]
    · rw [if_neg h1, if_neg h2, if_neg (by omega)]

/-- What splitInts hands back. -/
def Vals (w : World) (B : Nat) (L : List (List UInt8)) (v : Value) (ok : Bool) : Prop :=
  (ok = false ∧ allOk L = false ∧ v = .slice none 0 0) ∨ (ok = true ∧ allOk L = true ∧ ∃ b, v = .slice (some ⟨b, 0, none⟩) L.length L.length ∧ B ≤ b ∧ IntRow w b (L.map pVal))

set_option maxRecDepth 20000 in
theorem splitInts (s : ByteArray) (hs : s.size ≤ 1048576) (w : World) (hpow : Pow w) (hmx : Mx w) (L : List (List UInt8)) (hL : pieces 44 s.data.toList = L) :
    Calls Tryz.prog 50 #[.string s, .string ⟨#[44]⟩, .func (.func 49) #[] #[]] w fun e w' => (∃ v ok, e = .returned (.tuple #[v, .bool ok]) ∧ Vals w' w.heap.size L v ok) ∧ Below w.heap.size w w' := by
  have HP := Lib.hid hpow
  have HM := Lib.hid hmx
  have HL0 := Lib.hid hL
  clear hpow hmx hL
  go_enter Tryz.func50, Tryz.ntmps50
  go_wp2_with fail
  refine (split_c s hs w HM.out).mono ?_
  rintro e w0 ⟨ps, hps, rfl, rfl⟩
  have hL := HL0.out
  rw [hL] at hps
  have hlen : L.length ≤ 1048577 := by
    rw [← hL]
    have h1 := pieces_count 44 s.data.toList
    have h2 : s.data.toList.length = s.size := by rw [Array.length_toList]; rfl
    omega
  have hle : ∀ p ∈ L, p.length ≤ 1048576 := by
    intro p hp
    rw [← hL] at hp
    have h1 := piece_le hp
    have h2 : s.data.toList.length = s.size := by rw [Array.length_toList]; rfl
    omega
  have hpl : L.length = ps.length := by rw [← hps, List.length_map]
  obtain ⟨n, hn⟩ : ∃ n, ps.length = n := ⟨_, rfl⟩
  rw [hn] at hpl
  have HLn := Lib.hid hpl
  have hnb : n ≤ 1048577 := by omega
  rw [hn]
  have HPS := Lib.hid hps
  have HN := Lib.hid hn
  have HLe := Lib.hid hle
  obtain ⟨ws, hws⟩ : ∃ ws, ws = w.alloc (.cells (ps.map Value.string).toArray 9) := ⟨_, rfl⟩
  have hsz : w.heap.size < ws.heap.size := by rw [hws]; simp
  have HW0 := Lib.hid (show Below w.heap.size w ws by rw [hws]; exact (Below.refl _ w).alloc (Nat.le_refl _) _)
  have HC : Hid (∀ k p, ps[k]? = some p → ws.cell? ⟨w.heap.size, k, none⟩ = some (.string p)) := Lib.hid fun k p hp => by
    rw [hws, World.cell?_alloc_at _ _ _ _ rfl]
    simp [hp]
  have hmk := run_make_row' (P := Tryz.prog) 24 3 (.int .i64 0) 8 Tryz.underlying24 info_int rfl .i64 .i64 n (by omega) (by omega)
  rw [← hws]
  clear hL hlen hle hpl hps hn hws
  go_wp2
  clear hmk
  go_loopw [22] (fun i wr => ∃ k : Nat, k ≤ n ∧ i = .int .i64 k ∧ wr.rowIs ws.heap.size 3 n (fun j => if j < k then .int .i64 ((L.map pVal).getD j 0) else .int .i64 0) ∧ (∀ p ∈ L.take k, pOk p = true) ∧ Below ws.heap.size ws wr) (fun i _ => n - (intOf i).toNat)
  case atStart =>
    exact ⟨0, Nat.zero_le _, rfl, by simpa using World.rowIs_made ws (.int .i64 0) n 3, by simp, (Below.refl _ _).alloc (Nat.le_refl _) _⟩
  case round =>
    obtain ⟨k, hk, rfl, hrow, hall, hbel⟩ := hrel
    have HR := Lib.hid hrow
    have HA := Lib.hid hall
    have HB := Lib.hid hbel
    have HBw := Lib.hid (HW0.out.trans (hbel.mono HW0.out.size))
    clear hall
    by_cases hlt : k < n
    · obtain ⟨p, hp1, hp2⟩ := str_at HPS.out (k := k) (by rw [HN.out]; exact hlt)
      have f1 : wr.cell? ⟨w.heap.size, k, none⟩ = some (.string p) := (hbel.cell (p := ⟨w.heap.size, k, none⟩) hsz).trans (HC.out k p hp1)
      have HP2 := Lib.hid hp2
      have hpsz : Hid (p.size ≤ 1048576) := Lib.hid (by
        have h1 := HLe.out _ (mem_of_at hp2)
        have h2 : p.data.toList.length = p.size := by rw [Array.length_toList]; rfl
        omega)
      generalize hv : pVal p.data.toList = v
      generalize ho : pOk p.data.toList = ok
      have HV := Lib.hid hv
      have HO := Lib.hid ho
      clear hp1 hp2 hrow hbel hv ho
      go_wp2_with fail
      refine (iParse p hpsz.out wr (HP.out.below HBw.out)).mono ?_
      rintro e w1 ⟨rfl, hb⟩
      rw [HV.out, HO.out]
      have hrow1 := rowIs_below HR.out hb (World.rowIs.lt HR.out)
      have g1 : w1.cell? ⟨ws.heap.size, k, none⟩ = some (.int .i64 0) := by rw [World.rowIs.cell hrow1 hlt, if_neg (by omega)]
      have g2 := World.rowIs.frozen hrow1 k
      have HR1 := Lib.hid hrow1
      have HB1 := Lib.hid (HB.out.trans (hb.mono HB.out.size))
      clear hb hrow1 f1
      cases ok
      · have HF : Hid (allOk L = false) := Lib.hid (by
          cases h : allOk L with
          | false => rfl
          | true =>
            have := List.all_eq_true.1 h _ (mem_of_at HP2.out)
            rw [HO.out] at this; cases this)
        go_wp2
        go_ret2
        exact ⟨⟨_, _, rfl, .inl ⟨rfl, HF.out, rfl⟩⟩, HW0.out.trans (HB1.out.mono HW0.out.size)⟩
      · go_wp2
        go_roundw
        case rel =>
          refine ⟨k + 1, by omega, by go_num, (World.rowIs.set HR1.out k (.int .i64 v)).congr (fun j _ => by rw [← HV.out]; exact int_step (n := n) HP2.out j), ?_, HB1.out.setCell (Nat.le_refl _) _⟩
          rw [take_at HP2.out]
          intro u hu
          rcases List.mem_append.1 hu with h | h
          · exact HA.out u h
          · obtain rfl := List.mem_singleton.1 h
            exact HO.out
        case measure => simp [intOf]; omega
    · obtain rfl : k = n := by omega
      have HT : Hid (allOk L = true) := Lib.hid (List.all_eq_true.2 (by have := HA.out; rwa [take_all HLn.out] at this))
      clear hrow hbel
      go_wp2
      go_ret2
      refine ⟨⟨_, _, rfl, .inr ⟨rfl, HT.out, ws.heap.size, by rw [HLn.out]; rfl, by omega, ?_⟩⟩, HBw.out⟩
      unfold IntRow
      rw [List.length_map, HLn.out]
      exact HR.out.congr (fun j hj => by rw [if_pos hj])

/-- Two cells. -/
def Box2g (w : World) (g : Nat) (u v : Value) : Prop := w.cell? ⟨g, 0, none⟩ = some u ∧ w.cell? ⟨g, 1, none⟩ = some v
/-- What ParseItem hands back: t's slice is nothing, or a block of the call's own. -/
def Made (w : World) (B : Nat) (t : It) (ok : Bool) : Prop := (ok = false ∧ t = ⟨0, none, 0, 0, []⟩) ∨ (ok = true ∧ ∃ b, t.A = some ⟨b, 0, none⟩ ∧ t.n = 3 ∧ t.xs.length = 3 ∧ B ≤ b ∧ IntRow w b t.xs)
theorem two_set {w : World} {g : Nat} {t : TypeId} {u0 u1 v0 v1 : Value} (h : w.heap[g]? = some (.cells #[u0, u1] t (0, 0))) :
    ((w.setCell ⟨g, 0, none⟩ v0).setCell ⟨g, 1, none⟩ v1).heap[g]? = some (.cells #[v0, v1] t (0, 0)) := by
  have h := heap_setCell_same _ g 1 _ _ v1 (heap_setCell_same w g 0 _ _ v0 h)
  simpa using h
theorem set_alloc {w : World} {g : Nat} {t : TypeId} {u0 u1 v0 v1 : Value} (h : w.heap[g]? = some (.cells #[u0, u1] t (0, 0))) (o : Obj) :
    (((w.setCell ⟨g, 0, none⟩ v0).setCell ⟨g, 1, none⟩ v1).alloc o).heap[g]? = some (.cells #[v0, v1] t (0, 0)) :=
  (Below.heap_alloc _ _ _ (lt_of_block (two_set h))).trans (two_set h)
theorem size_list (s : ByteArray) : s.data.toList.length = s.size := by rw [Array.length_toList]; rfl
theorem size_mk (l : List UInt8) : (⟨l.toArray⟩ : ByteArray).size = l.length := by simp [ByteArray.size]
theorem cut_le (c : UInt8) : ∀ l : List UInt8, (Lib.cut l [c]).1.length ≤ l.length ∧ (Lib.cut l [c]).2.1.length ≤ l.length
  | [] => by simp [Lib.cut, Lib.index]
  | b :: l => by
    have ih := cut_le c l
    rw [cut_cons]
    split
    · simp
    · split
      · simp only [List.length_cons]; omega
      · simp

set_option maxRecDepth 20000 in
set_option maxHeartbeats 800000 in
theorem iParseItem (s : ByteArray) (hs : s.size ≤ 1048576) (w : World) (hpow : Pow w) (hmx : Mx w) :
    Calls Tryz.prog 8 #[.string s] w fun e w' => (∃ (t : It) (ok : Bool), e = .returned (.tuple #[t.val, .bool ok]) ∧ Parsed s.data.toList t.dat ok ∧ Made w' w.heap.size t ok) ∧ Below w.heap.size w w' := by
  have HP := Lib.hid hpow
  have HM := Lib.hid hmx
  have hcl := cut_le 58 s.data.toList
  rw [size_list] at hcl
  obtain ⟨h, hh⟩ : ∃ h, h = (Lib.cut s.data.toList [58]).1 := ⟨_, rfl⟩
  obtain ⟨tl, htl⟩ : ∃ tl, tl = (Lib.cut s.data.toList [58]).2.1 := ⟨_, rfl⟩
  obtain ⟨fd, hfd⟩ : ∃ fd, fd = (Lib.cut s.data.toList [58]).2.2 := ⟨_, rfl⟩
  rw [← hh, ← htl] at hcl
  have HCl : Hid ((⟨h.toArray⟩ : ByteArray).size ≤ 1048576 ∧ (⟨tl.toArray⟩ : ByteArray).size ≤ 1048576) := Lib.hid (by rw [size_mk, size_mk]; omega)
  have HH := Lib.hid hh
  have HT := Lib.hid htl
  have HF := Lib.hid hfd
  have hcut : ∀ w, Mx w → Calls Tryz.prog 48 #[.string s, .string ⟨#[58]⟩] w fun e w' => e = .returned (.tuple #[.string ⟨h.toArray⟩, .string ⟨tl.toArray⟩, .bool fd]) ∧ Below w.heap.size w w' := fun w ⟨m, hm⟩ => by
    refine (Tryz.strings_Cut s ⟨#[58]⟩ m w (by omega) hm).mono fun e w' ⟨he, n, hw⟩ => ⟨?_, hw ▸ below_drewN (Below.refl _ _) n⟩
    rw [he, hh, htl, hfd]
  have HCut := Lib.hid hcut
  have hcut' := HCut
  clear hpow hmx hcl hh htl hfd hcut hcut'
  go_enter Tryz.func8, Tryz.ntmps8
  go_wp2_with fail
  have hx := (Below.refl w.heap.size w).alloc (Nat.le_refl _) (.cells #[.int .i64 0, .slice none 0 0] 26)
  refine ((HCut : ∀ w, Mx w → Calls Tryz.prog 48 #[.string s, .string ⟨#[58]⟩] w fun e w' => e = .returned (.tuple #[.string ⟨h.toArray⟩, .string ⟨tl.toArray⟩, .bool fd]) ∧ Below w.heap.size w w') _ (HM.out.below hx)).mono ?_
  rintro e w1 ⟨rfl, hb1⟩
  have HR1 : Hid (w1.heap[w.heap.size]? = some (.cells #[.int .i64 0, .slice none 0 0] 26 (0, 0))) := Lib.hid ((hb1.block w.heap.size (by simp)).trans (heap_alloc_new w _))
  have HB1 := Lib.hid (hx.trans (hb1.mono hx.size))
  clear hb1 hx
  generalize hv : pVal h = v
  generalize ho : pOk h = ok1
  have HV := Lib.hid hv
  have HO := Lib.hid ho
  clear hv ho
  go_wp2_with fail
  refine (iParse ⟨h.toArray⟩ HCl.out.1 w1 (HP.out.below HB1.out)).mono ?_
  rintro e w2 ⟨rfl, hb2⟩
  have hvv : pVal (⟨h.toArray⟩ : ByteArray).data.toList = v := HV.out
  have hoo : pOk (⟨h.toArray⟩ : ByteArray).data.toList = ok1 := HO.out
  rw [hvv, hoo]
  have HR2 := Lib.hid ((hb2.block w.heap.size (lt_of_block HR1.out)).trans HR1.out)
  have HB2 := Lib.hid (HB1.out.trans (hb2.mono HB1.out.size))
  clear hb2 hvv hoo
  go_wp2_with fail
  refine (splitInts ⟨tl.toArray⟩ HCl.out.2 w2 (HP.out.below HB2.out) (HM.out.below HB2.out) (pieces 44 tl) rfl).mono ?_
  rintro e w3 ⟨⟨u, ok2, rfl, hvals⟩, hb3⟩
  have HR3 := Lib.hid ((hb3.block w.heap.size (lt_of_block HR2.out)).trans HR2.out)
  have HB3 := Lib.hid (HB2.out.trans (hb3.mono HB2.out.size))
  have hszz := HB2.out.size
  clear hb3
  have NO : Hid (¬ (ok1 = true ∧ ok2 = true) → Parsed s.data.toList (0, []) false) := Lib.hid fun hn => parsed_impl_no fun ⟨h1, h2, _⟩ => hn (by
    rw [← HH.out, HO.out] at h1
    rw [← HT.out] at h2
    refine ⟨h1, ?_⟩
    rcases hvals with ⟨_, h3, _⟩ | ⟨h3, _⟩
    · rw [h2] at h3; cases h3
    · exact h3)
  by_cases hoks : ok1 = true ∧ ok2 = true
  · obtain ⟨rfl, rfl⟩ := hoks
    rcases hvals with ⟨h3, _⟩ | ⟨_, h4, b, rfl, hbb, hrow⟩
    · cases h3
    have HRow := Lib.hid hrow
    have HA := Lib.hid h4
    obtain ⟨n, hn⟩ : ∃ n, n = (pieces 44 tl).length := ⟨_, rfl⟩
    rw [← hn]
    have HN := Lib.hid hn
    have HBb := Lib.hid hbb
    have hints := hrow.ints (B := w3.heap.size) hrow.lt
    rw [List.length_map, ← hn] at hints
    have HI := Lib.hid hints
    obtain ⟨q, hq⟩ := bool_of (IsP (v, (pieces 44 tl).map pVal))
    have HQ := Lib.hid hq
    have hx3 := HB3.out.alloc HB3.out.size (.cells #[.int .i64 v, .slice (some ⟨b, 0, none⟩) n n] 26)
    have hx4 := (Below.refl w3.heap.size w3).alloc (Nat.le_refl _) (.cells #[.int .i64 v, .slice (some ⟨b, 0, none⟩) n n] 26)
    clear hn hrow h4 hints hq hbb
    go_wp2_with fail
    refine (iIsItem _ w3.heap.size ⟨v, some ⟨b, 0, none⟩, n, n, (pieces 44 tl).map pVal⟩ (HI.out.below hx4) hx4.size q HQ.out).mono ?_
    rintro e w4 ⟨rfl, hb4⟩
    have hb4' := hx4.trans (hb4.mono hx4.size)
    have HR4 := Lib.hid ((hb4'.block w.heap.size (lt_of_block HR3.out)).trans HR3.out)
    have HB4 := Lib.hid (HB3.out.trans (hb4'.mono HB3.out.size))
    have HRow4 := Lib.hid (HRow.out.below hb4' HRow.out.lt)
    have HX4 : Hid (Box2g w4 w3.heap.size (.int .i64 v) (.slice (some ⟨b, 0, none⟩) n n)) := Lib.hid ⟨(hb4.cell (p := ⟨w3.heap.size, 0, none⟩) (by simp)).trans (World.cell?_alloc_at _ _ _ _ rfl), (hb4.cell (p := ⟨w3.heap.size, 1, none⟩) (by simp)).trans (World.cell?_alloc_at _ _ _ _ rfl)⟩
    clear hb4 hb4' hx3 hx4
    have x0 := HX4.out.1
    have x1 := HX4.out.2
    have d0 : w4.cell? ⟨w.heap.size, 0, none⟩ = some (.int .i64 0) := cell_of_row w4 _ 0 _ _ (0, 0) HR4.out
    have d1 : w4.cell? ⟨w.heap.size, 1, none⟩ = some (.slice none 0 0) := cell_of_row w4 _ 1 _ _ (0, 0) HR4.out
    have g0 : w4.frozen? ⟨w.heap.size, 0, none⟩ = false := frozen_of_row w4 _ 0 _ _ HR4.out
    have g1 : w4.frozen? ⟨w.heap.size, 1, none⟩ = false := frozen_of_row w4 _ 1 _ _ HR4.out
    cases q
    · have HPn : Hid (Parsed s.data.toList (0, []) false) := Lib.hid (parsed_impl_no fun ⟨_, _, h3⟩ => by
        rw [← HH.out, ← HT.out, HV.out] at h3
        have := HQ.out.2 h3; cases this)
      go_wp2
      refine bodyPost_ret_by (results_row_tmp rfl _ _ w.heap.size 26 _ (0, 0) _ rfl (two_set HR4.out) Tryz.underlying26 rfl (by kernel_rfl)) rfl ?_
      exact ⟨⟨⟨0, none, 0, 0, []⟩, false, rfl, HPn.out, .inl ⟨rfl, rfl⟩⟩, (HB4.out.setCell (Nat.le_refl _) _).setCell (Nat.le_refl _) _⟩
    · have HD := Lib.hid (HQ.out.1 rfl)
      have HPy : Hid (Parsed s.data.toList (v, (pieces 44 tl).map pVal) true) := Lib.hid (parsed_impl_yes (by rw [← HH.out]; exact HO.out) (by rw [← HT.out]; exact HA.out) (by rw [← HH.out, ← HT.out, HV.out]) HD.out)
      have hlen : ((pieces 44 tl).map pVal).length = 3 := HD.out.2.2
      have HLen := Lib.hid hlen
      have hbne : Hid (b ≠ w.heap.size) := Lib.hid (by have := HBb.out; have := lt_of_block HR2.out; omega)
      clear hlen
      go_wp2
      refine bodyPost_ret_by (results_row_tmp rfl _ _ w.heap.size 26 _ (0, 0) _ rfl (two_set HR4.out) Tryz.underlying26 rfl (by kernel_rfl)) rfl ?_
      refine ⟨⟨⟨v, some ⟨b, 0, none⟩, n, n, (pieces 44 tl).map pVal⟩, true, rfl, HPy.out, .inr ⟨rfl, b, rfl, ?_, HLen.out, by have := HBb.out; have := HB2.out.size; omega, ?_⟩⟩, (HB4.out.setCell (Nat.le_refl _) _).setCell (Nat.le_refl _) _⟩
      · have := HN.out; have := HLen.out; simp only [List.length_map] at this; show n = 3; omega
      · exact World.rowIs.setOther (World.rowIs.setOther HRow4.out (a := ⟨w.heap.size, 0, none⟩) hbne.out _) (a := ⟨w.heap.size, 1, none⟩) hbne.out _
  · have HPn := Lib.hid (NO.out hoks)
    have HU : Hid (∃ A n c, u = .slice A n c) := Lib.hid (by
      rcases hvals with ⟨_, _, h5⟩ | ⟨_, _, b, h5, _⟩
      · exact ⟨_, _, _, h5⟩
      · exact ⟨_, _, _, h5⟩)
    obtain ⟨A, n, c, rfl⟩ := HU.out
    have hl3 := lt_of_block HR3.out
    have d0 : w3.cell? ⟨w.heap.size, 0, none⟩ = some (.int .i64 0) := cell_of_row w3 _ 0 _ _ (0, 0) HR3.out
    have d1 : w3.cell? ⟨w.heap.size, 1, none⟩ = some (.slice none 0 0) := cell_of_row w3 _ 1 _ _ (0, 0) HR3.out
    have g0 : w3.frozen? ⟨w.heap.size, 0, none⟩ = false := frozen_of_row w3 _ 0 _ _ HR3.out
    have g1 : w3.frozen? ⟨w.heap.size, 1, none⟩ = false := frozen_of_row w3 _ 1 _ _ HR3.out
    have HOK : Hid ((ok1 && ok2) = false) := Lib.hid (by cases ok1 <;> cases ok2 <;> simp_all)
    clear hoks hvals
    cases ok1 <;> cases ok2
    case true.true => cases HOK.out
    all_goals
      go_wp2
      refine bodyPost_ret_by (results_row_tmp rfl _ _ w.heap.size 26 _ (0, 0) _ rfl (set_alloc HR3.out _) Tryz.underlying26 rfl (by kernel_rfl)) rfl ?_
      exact ⟨⟨⟨0, none, 0, 0, []⟩, false, rfl, HPn.out, .inl ⟨rfl, rfl⟩⟩, ((HB3.out.setCell (Nat.le_refl _) _).setCell (Nat.le_refl _) _).alloc (by simp [World.setCell]; exact HB3.out.size) _⟩
end Go.Proofs.YtadjoiahllekdaaGreatDoor.num
namespace Go.Proofs.YtadjoiahllekdaaGreatDoor.num
set_option maxRecDepth 20000
open Go.RowKit Go.Maps
set_option linter.unusedVariables false
set_option linter.unusedSimpArgs false

set_option maxRecDepth 20000 in
set_option maxHeartbeats 1600000 in
theorem iParsePair (s : ByteArray) (hs : s.size ≤ 1048576) (w : World) (hpow : Pow w) (hmx : Mx w) :
    Calls Tryz.prog 56 #[.string s] w fun e w' => e = .returned (.tuple #[.agg #[.int .i64 (valC s.data.toList).1, .int .i64 (valC s.data.toList).2], .bool (okC s.data.toList)]) ∧ Below w.heap.size w w' := by
  have HP := Lib.hid hpow
  have HM := Lib.hid hmx
  have hcl := cut_le 62 s.data.toList
  rw [size_list] at hcl
  have hdef : valC s.data.toList = (pVal (Lib.cut s.data.toList [62]).1, pVal (Lib.cut s.data.toList [62]).2.1) ∧ okC s.data.toList = (pOk (Lib.cut s.data.toList [62]).1 && pOk (Lib.cut s.data.toList [62]).2.1) := ⟨rfl, rfl⟩
  obtain ⟨vc, hvc⟩ : ∃ vc, vc = valC s.data.toList := ⟨_, rfl⟩
  obtain ⟨oc, hoc⟩ : ∃ oc, oc = okC s.data.toList := ⟨_, rfl⟩
  rw [← hvc, ← hoc] at hdef ⊢
  obtain ⟨h, hh⟩ : ∃ h, h = (Lib.cut s.data.toList [62]).1 := ⟨_, rfl⟩
  obtain ⟨tl, htl⟩ : ∃ tl, tl = (Lib.cut s.data.toList [62]).2.1 := ⟨_, rfl⟩
  obtain ⟨fd, hfd⟩ : ∃ fd, fd = (Lib.cut s.data.toList [62]).2.2 := ⟨_, rfl⟩
  rw [← hh, ← htl] at hcl hdef
  have HCl : Hid ((⟨h.toArray⟩ : ByteArray).size ≤ 1048576 ∧ (⟨tl.toArray⟩ : ByteArray).size ≤ 1048576) := Lib.hid (by rw [size_mk, size_mk]; omega)
  have hcut : ∀ w, Mx w → Calls Tryz.prog 48 #[.string s, .string ⟨#[62]⟩] w fun e w' => e = .returned (.tuple #[.string ⟨h.toArray⟩, .string ⟨tl.toArray⟩, .bool fd]) ∧ Below w.heap.size w w' := fun w ⟨m, hm⟩ => by
    refine (Tryz.strings_Cut s ⟨#[62]⟩ m w (by omega) hm).mono fun e w' ⟨he, n, hw⟩ => ⟨?_, hw ▸ below_drewN (Below.refl _ _) n⟩
    rw [he, hh, htl, hfd]
  have HCut := Lib.hid hcut
  obtain ⟨x, hx⟩ : ∃ x, x = pVal h := ⟨_, rfl⟩
  obtain ⟨y, hy⟩ : ∃ y, y = pVal tl := ⟨_, rfl⟩
  obtain ⟨o1, ho1⟩ : ∃ o1, o1 = pOk h := ⟨_, rfl⟩
  obtain ⟨o2, ho2⟩ : ∃ o2, o2 = pOk tl := ⟨_, rfl⟩
  rw [← hx, ← hy, ← ho1, ← ho2] at hdef
  obtain ⟨rfl, rfl⟩ := hdef
  have HV := Lib.hid (And.intro hx (And.intro hy (And.intro ho1 ho2)))
  clear hpow hmx hcl hh htl hfd hcut hvc hoc hx hy ho1 ho2
  go_enter Tryz.func56, Tryz.ntmps56
  go_wp2_with fail
  have hx := (Below.refl w.heap.size w).alloc (Nat.le_refl _) (.cells #[.int .i64 0, .int .i64 0] 78)
  refine ((HCut : ∀ w, Mx w → Calls Tryz.prog 48 #[.string s, .string ⟨#[62]⟩] w fun e w' => e = .returned (.tuple #[.string ⟨h.toArray⟩, .string ⟨tl.toArray⟩, .bool fd]) ∧ Below w.heap.size w w') _ (HM.out.below hx)).mono ?_
  rintro e w1 ⟨rfl, hb1⟩
  have HR1 : Hid (w1.heap[w.heap.size]? = some (.cells #[.int .i64 0, .int .i64 0] 78 (0, 0))) := Lib.hid ((hb1.block w.heap.size (by simp)).trans (heap_alloc_new w _))
  have HB1 := Lib.hid (hx.trans (hb1.mono hx.size))
  clear hb1 hx
  go_wp2_with fail
  refine (iParse ⟨h.toArray⟩ HCl.out.1 w1 (HP.out.below HB1.out)).mono ?_
  rintro e w2 ⟨rfl, hb2⟩
  have hv1 : pVal (⟨h.toArray⟩ : ByteArray).data.toList = x := HV.out.1.symm
  have hv2 : pOk (⟨h.toArray⟩ : ByteArray).data.toList = o1 := HV.out.2.2.1.symm
  rw [hv1, hv2]
  have HR2 := Lib.hid ((hb2.block w.heap.size (lt_of_block HR1.out)).trans HR1.out)
  have HB2 := Lib.hid (HB1.out.trans (hb2.mono HB1.out.size))
  clear hb2 hv1 hv2
  go_wp2_with fail
  refine (iParse ⟨tl.toArray⟩ HCl.out.2 w2 (HP.out.below HB2.out)).mono ?_
  rintro e w3 ⟨rfl, hb3⟩
  have hv1 : pVal (⟨tl.toArray⟩ : ByteArray).data.toList = y := HV.out.2.1.symm
  have hv2 : pOk (⟨tl.toArray⟩ : ByteArray).data.toList = o2 := HV.out.2.2.2.symm
  rw [hv1, hv2]
  have HR3 := Lib.hid ((hb3.block w.heap.size (lt_of_block HR2.out)).trans HR2.out)
  have HB3 := Lib.hid (HB2.out.trans (hb3.mono HB2.out.size))
  clear hb3 hv1 hv2
  have d0 : w3.cell? ⟨w.heap.size, 0, none⟩ = some (.int .i64 0) := cell_of_row w3 _ 0 _ _ (0, 0) HR3.out
  have d1 : w3.cell? ⟨w.heap.size, 1, none⟩ = some (.int .i64 0) := cell_of_row w3 _ 1 _ _ (0, 0) HR3.out
  have g0 : w3.frozen? ⟨w.heap.size, 0, none⟩ = false := frozen_of_row w3 _ 0 _ _ HR3.out
  have g1 : w3.frozen? ⟨w.heap.size, 1, none⟩ = false := frozen_of_row w3 _ 1 _ _ HR3.out
  cases o1
  all_goals
    go_wp2
    refine bodyPost_ret_by (results_row_tmp rfl _ _ w.heap.size 78 _ (0, 0) _ rfl (two_set HR3.out) Tryz.underlying78 rfl (by kernel_rfl)) rfl ?_
    exact ⟨rfl, (HB3.out.setCell (Nat.le_refl _) _).setCell (Nat.le_refl _) _⟩

theorem make_pairsL (n : Nat) (hn : n ≤ 2000000) (w : World) :
    (Instr.makeSlice 31 (.int .i64 (n : Int)) (.int .i64 (n : Int))).run Tryz.prog w = .ok (.slice (some ⟨w.heap.size, 0, none⟩) n n) (w.alloc (.cells (madeCells #[.int .i64 0, .int .i64 0] (n * 2)) 78)) := by
  obtain ⟨i, hi, hzz⟩ := Option.map_eq_some_iff.1 info_pair
  simp only [Prod.mk.injEq] at hzz
  obtain ⟨hz, hs, hb⟩ := hzz
  have hr := run_make (P := Tryz.prog) w _ _ i _ Tryz.underlying31 hi hz .i64 .i64 n n (by omega) (Int.le_refl _) (by rw [hb]; omega) (by omega)
  rw [hs] at hr
  simp only [Int.toNat_natCast] at hr
  exact hr
theorem all_step {L : List (List UInt8)} {k : Nat} {p : List UInt8} (hp : L[k]? = some p) (h : (L.take k).all okC = true) (h1 : okC p = true) : (L.take (k + 1)).all okC = true := by
  rw [ptake_at hp, List.all_append, h, List.all_cons, h1]; rfl
/-- What splitList hands back. -/
def ValsP (w : World) (B : Nat) (L : List (List UInt8)) (v : Value) (ok : Bool) : Prop :=
  (ok = false ∧ L.all okC = false ∧ v = .slice none 0 0) ∨ (ok = true ∧ L.all okC = true ∧ ∃ b, v = .slice (some ⟨b, 0, none⟩) L.length L.length ∧ B ≤ b ∧ PairRow w b (L.map valC))
set_option maxRecDepth 20000 in
set_option maxHeartbeats 1600000 in
theorem splitPairs (s : ByteArray) (hs : s.size ≤ 1048576) (w : World) (hpow : Pow w) (hmx : Mx w) (L : List (List UInt8)) (hL : pieces 44 s.data.toList = L) :
    Calls Tryz.prog 55 #[.string s, .string ⟨#[44]⟩, .func (.func 56) #[] #[]] w fun e w' => (∃ v ok, e = .returned (.tuple #[v, .bool ok]) ∧ ValsP w' w.heap.size L v ok) ∧ Below w.heap.size w w' := by
  have HP := Lib.hid hpow
  have HM := Lib.hid hmx
  have HL0 := Lib.hid hL
  clear hpow hmx hL
  go_enter Tryz.func55, Tryz.ntmps55
  go_wp2_with fail
  refine (split_c s hs w HM.out).mono ?_
  rintro e w0 ⟨ps, hps, rfl, rfl⟩
  have hL := HL0.out
  rw [hL] at hps
  have hlen : L.length ≤ 1048577 := by
    rw [← hL]
    have h1 := pieces_count 44 s.data.toList
    have h2 : s.data.toList.length = s.size := by rw [Array.length_toList]; rfl
    omega
  have hle : ∀ p ∈ L, p.length ≤ 1048576 := by
    intro p hp
    rw [← hL] at hp
    have h1 := piece_le hp
    have h2 : s.data.toList.length = s.size := by rw [Array.length_toList]; rfl
    omega
  have hpl : L.length = ps.length := by rw [← hps, List.length_map]
  obtain ⟨n, hn⟩ : ∃ n, ps.length = n := ⟨_, rfl⟩
  rw [hn] at hpl
  have HLn := Lib.hid hpl
  have hnb : n ≤ 1048577 := by omega
  rw [hn]
  have HPS := Lib.hid hps
  have HN := Lib.hid hn
  have HLe := Lib.hid hle
  obtain ⟨ws, hws⟩ : ∃ ws, ws = w.alloc (.cells (ps.map Value.string).toArray 9) := ⟨_, rfl⟩
  have hsz : w.heap.size < ws.heap.size := by rw [hws]; simp
  have HW0 := Lib.hid (show Below w.heap.size w ws by rw [hws]; exact (Below.refl _ w).alloc (Nat.le_refl _) _)
  have HC : Hid (∀ k p, ps[k]? = some p → ws.cell? ⟨w.heap.size, k, none⟩ = some (.string p)) := Lib.hid fun k p hp => by
    rw [hws, World.cell?_alloc_at _ _ _ _ rfl]
    simp [hp]
  have hmk := make_pairsL n (by omega)
  rw [← hws]
  clear hL hlen hle hpl hps hn hws
  go_wp2
  clear hmk
  go_loopw [22] (fun i wr => ∃ k : Nat, k ≤ n ∧ i = .int .i64 k ∧ wr.rowIs ws.heap.size 78 (n * 2) (pairCell ((L.take k).map valC)) ∧ (L.take k).all okC = true ∧ Below ws.heap.size ws wr) (fun i _ => n - (intOf i).toNat)
  case atStart =>
    exact ⟨0, Nat.zero_le _, rfl, made_pairs ws n, rfl, (Below.refl _ _).alloc (Nat.le_refl _) _⟩
  case round =>
    obtain ⟨k, hk, rfl, hrow, hall, hbel⟩ := hrel
    have HR := Lib.hid hrow
    have HA := Lib.hid hall
    have HB := Lib.hid hbel
    have HBw := Lib.hid (HW0.out.trans (hbel.mono HW0.out.size))
    clear hall
    by_cases hlt : k < n
    · obtain ⟨p, hp1, hp2⟩ := str_at HPS.out (k := k) (by rw [HN.out]; exact hlt)
      have f1 : wr.cell? ⟨w.heap.size, k, none⟩ = some (.string p) := (hbel.cell (p := ⟨w.heap.size, k, none⟩) hsz).trans (HC.out k p hp1)
      have HP2 := Lib.hid hp2
      have hpsz : Hid (p.size ≤ 1048576) := Lib.hid (by
        have h1 := HLe.out _ (mem_of_at hp2)
        have h2 : p.data.toList.length = p.size := by rw [Array.length_toList]; rfl
        omega)
      obtain ⟨x, hx⟩ : ∃ x, x = (valC p.data.toList).1 := ⟨_, rfl⟩
      obtain ⟨y, hy⟩ : ∃ y, y = (valC p.data.toList).2 := ⟨_, rfl⟩
      obtain ⟨ok, ho⟩ : ∃ ok, ok = okC p.data.toList := ⟨_, rfl⟩
      have HV : Hid (valC p.data.toList = (x, y)) := Lib.hid (by rw [hx, hy])
      have HO := Lib.hid ho
      have hlk : Hid (((L.take k).map valC).length = k) := Lib.hid (by rw [List.length_map, List.length_take, HLn.out]; omega)
      have hlt' : (k : Int) < (n : Int) := by omega
      clear hp1 hp2 hrow hbel hx hy ho
      go_wp2_with fail
      refine (iParsePair p hpsz.out wr (HP.out.below HBw.out) (HM.out.below HBw.out)).mono ?_
      rintro e w1 ⟨rfl, hb⟩
      rw [HV.out, ← HO.out]
      obtain ⟨ob, hob⟩ : ∃ ob : Obj, ob = .cells #[.int .i64 x, .int .i64 y] 78 := ⟨_, rfl⟩
      have hb2 : Below wr.heap.size wr (w1.alloc ob) := hb.alloc hb.size ob
      have hrow1 := rowIs_below HR.out hb2 (World.rowIs.lt HR.out)
      have q1 : (w1.alloc ob).cell? ⟨ws.heap.size, k * 2, none⟩ = some (.int .i64 0) := by rw [World.rowIs.cell hrow1 (by omega), pairCell_none (by rw [hlk.out]; omega)]
      have q2 : (w1.alloc ob).cell? ⟨ws.heap.size, k * 2 + 1, none⟩ = some (.int .i64 0) := by rw [World.rowIs.cell hrow1 (by omega), pairCell_none (by rw [hlk.out]; omega)]
      have q3 := World.rowIs.frozen hrow1 (k * 2)
      have q4 := World.rowIs.frozen hrow1 (k * 2 + 1)
      have HR1 := Lib.hid hrow1
      have HB1 := Lib.hid (HB.out.trans (hb2.mono HB.out.size))
      clear hb hb2 hrow1 f1
      rw [hob] at q1 q2 q3 q4
      cases ok
      · have HF : Hid (L.all okC = false) := Lib.hid (by
          cases h : L.all okC with
          | false => rfl
          | true =>
            have := List.all_eq_true.1 h _ (mem_of_at HP2.out)
            rw [← HO.out] at this; cases this)
        clear q1 q2 q3 q4
        go_wp2
        go_ret2
        first
        | exact ⟨⟨_, _, rfl, .inl ⟨rfl, HF.out, rfl⟩⟩, HW0.out.trans ((by rw [hob] at HB1; exact HB1.out : Below ws.heap.size ws _).mono HW0.out.size)⟩
      · go_wp2
        go_roundw
        case rel =>
          refine ⟨k + 1, by omega, by go_num, ?_, all_step HP2.out HA.out HO.out.symm, ?_⟩
          · rw [ptake_at HP2.out, List.map_append, List.map_cons, List.map_nil, HV.out, ← hob]
            exact (World.rowIs.set (World.rowIs.set HR1.out (k * 2) (.int .i64 x)) (k * 2 + 1) (.int .i64 y)).congr (fun j _ => pairCell_snoc hlk.out (x, y) j)
          · rw [← hob]; exact (HB1.out.setCell (Nat.le_refl _) _).setCell (Nat.le_refl _) _
        case measure => simp [intOf]; omega
    · obtain rfl : k = n := by omega
      have HT : Hid (L.all okC = true) := Lib.hid (by have := HA.out; rwa [ptake_all HLn.out] at this)
      clear hrow hbel
      go_wp2
      go_ret2
      refine ⟨⟨_, _, rfl, .inr ⟨rfl, HT.out, ws.heap.size, by rw [HLn.out]; rfl, by omega, ?_⟩⟩, HBw.out⟩
      have h := HR.out
      rw [ptake_all HLn.out] at h
      unfold PairRow
      rw [List.length_map, HLn.out]
      exact h

/-- What ParsePairs answers: pairs of the call's own. -/
def OutParse (s : ByteArray) (w : World) (e : Ending) (w' : World) : Prop := (∃ v ps ok, e = .returned (.tuple #[v, .bool ok]) ∧ OwnP w' w.heap.size v ps ∧ ParsedP s.data.toList ps ok) ∧ Below w.heap.size w w'
set_option maxRecDepth 20000 in
set_option maxHeartbeats 1600000 in
theorem iParsePairs (s : ByteArray) (hs : s.size ≤ 1048576) (w : World) (hpow : Pow w) (hmx : Mx w) :
    Calls Tryz.prog 11 #[.string s] w (OutParse s w) := by
  obtain ⟨q0, hq0⟩ := bool_of (s.data.toList = noneT)
  have hc1 : (s.toList == [110, 111, 110, 101]) = q0 := by
    rw [ByteArray.toList_eq, Bool.eq_iff_iff, beq_iff_eq, hq0]
    exact Iff.rfl
  have hc2 : (s.toList == (⟨#[110, 111, 110, 101]⟩ : ByteArray).toList) = q0 := by
    rw [ByteArray.toList_eq, ByteArray.toList_eq, Bool.eq_iff_iff, beq_iff_eq, hq0]
    exact Iff.rfl
  have HQ0 := Lib.hid hq0
  clear hq0
  cases q0
  · have HNe : Hid (s.data.toList ≠ noneT) := Lib.hid fun h => by have := HQ0.out.2 h; cases this
    obtain ⟨L, hL⟩ : ∃ L, L = pieces 44 s.data.toList := ⟨_, rfl⟩
    have HL := Lib.hid hL
    go_enter Tryz.func11, Tryz.ntmps11
    go_wp2_with fail
    refine (splitPairs s hs w hpow hmx L hL.symm).mono ?_
    rintro e w1 ⟨⟨u, ok, rfl, hvals⟩, hb1⟩
    have HB1 := Lib.hid hb1
    clear hpow hmx hb1 hL
    rcases hvals with ⟨rfl, hall, rfl⟩ | ⟨rfl, hall, b, rfl, hbb, hrow⟩
    · have HNo : Hid (ParsedP s.data.toList [] false) := Lib.hid (impl_noP HNe.out fun h => by rw [← HL.out, hall] at h; cases h.1)
      clear hall hc1 hc2
      go_wp2
      go_ret2
      exact ⟨⟨_, [], false, rfl, OwnP.nil _ _, HNo.out⟩, HB1.out⟩
    · obtain ⟨n, hn⟩ : ∃ n, n = L.length := ⟨_, rfl⟩
      have hn8 : n ≤ 1048576 := by
        have h1 := few (s := s.data.toList) (by
          rw [← HL.out]
          exact fun c hc => okC_len (List.all_eq_true.1 hall c hc))
        rw [← HL.out, ← hn, size_list] at h1
        omega
      rw [← hn]
      have HRow := Lib.hid hrow
      have HAll := Lib.hid hall
      have HBb := Lib.hid hbb
      have HN := Lib.hid hn
      have hlm : (L.map valC).length = n := by rw [List.length_map, hn]
      have hp : Pairs w1 w1.heap.size (some ⟨b, 0, none⟩) n (L.map valC) := hlm ▸ hrow.pairs hrow.lt
      have HPr := Lib.hid hp
      have HLm := Lib.hid hlm
      obtain ⟨q, hq⟩ := bool_of (OkP (L.map valC))
      have HQ := Lib.hid hq
      clear hall hrow hbb hn hlm hp hq hc1 hc2
      go_wp2_with fail
      refine (iArePairs w1 w1.heap.size (some ⟨b, 0, none⟩) n n (L.map valC) HPr.out (Nat.le_refl _) hn8 q HQ.out).mono ?_
      rintro e w2 ⟨rfl, hb2⟩
      have HB2 := Lib.hid (HB1.out.trans (hb2.mono HB1.out.size))
      have HRow2 := Lib.hid (HRow.out.below hb2 HRow.out.lt)
      clear hb2
      cases q
      · have HNo : Hid (ParsedP s.data.toList [] false) := Lib.hid (impl_noP HNe.out fun h => by rw [← HL.out] at h; have := HQ.out.2 h.2; cases this)
        go_wp2
        go_ret2
        exact ⟨⟨_, [], false, rfl, OwnP.nil _ _, HNo.out⟩, HB2.out⟩
      · have HY : Hid (ParsedP s.data.toList (L.map valC) true) := Lib.hid (by
          have h1 := HAll.out
          have h2 := HQ.out.1 (by first | rfl | trivial)
          rw [HL.out] at h1 h2 ⊢
          exact impl_yesP h1 h2)
        go_wp2
        go_ret2
        exact ⟨⟨_, L.map valC, true, rfl, HRow2.out.own HBb.out HLm.out hn8, HY.out⟩, HB2.out⟩
  · have HE : Hid (s.data.toList = noneT) := Lib.hid (HQ0.out.1 (by first | rfl | trivial))
    clear hpow hmx
    go_enter Tryz.func11, Tryz.ntmps11
    go_wp2
    go_ret2
    exact ⟨⟨_, [], true, rfl, OwnP.nil _ _, by rw [HE.out]; exact parsedP_none⟩, Below.refl _ _⟩
end Go.Proofs.YtadjoiahllekdaaGreatDoor.num
namespace Go.Proofs.YtadjoiahllekdaaGreatDoor.num
set_option maxRecDepth 20000
open Go.RowKit
set_option linter.unusedVariables false
set_option linter.unusedSimpArgs false

/-- A wish that the program read. -/
structure ReadW (w : World) (B : Nat) (t : Wi) : Prop where
  l : OwnI w B (.slice t.LA t.Ln t.Lc) t.ls
  p : OwnP w B (.slice t.PA t.Pn t.Pc) t.ps
  nl : t.ls.length ≤ 1048576
  np : t.ps.length ≤ 8
  ap : ∀ k, (Value.slice t.LA t.Ln t.Lc).ownBlock = some k → (Value.slice t.PA t.Pn t.Pc).ownBlock ≠ some k
def OutRead (s : ByteArray) (w : World) (e : Ending) (w' : World) : Prop := (∃ t : Wi, e = .returned t.val ∧ ReadW w' w.heap.size t ∧ ImplW s.data.toList t.dat) ∧ Below w.heap.size w w'
theorem ownI_lowD' {w : World} {B B' : Nat} {v : Value} {l : List Int} (h : OwnI w B v l) (hB : B' ≤ B) : OwnI w B' v l :=
  ⟨h.1, h.2.imp id fun ⟨g, cap, cur, h1, h2, h3⟩ => ⟨g, cap, cur, h1, Nat.le_trans hB h2, h3⟩⟩
theorem ownP_lowD' {w : World} {B B' : Nat} {v : Value} {l : List (Int × Int)} (h : OwnP w B v l) (hB : B' ≤ B) : OwnP w B' v l :=
  ⟨h.1, h.2.imp id fun ⟨g, cap, cur, h1, h2, h3⟩ => ⟨g, cap, cur, h1, Nat.le_trans hB h2, h3⟩⟩
theorem trim_le (l : List UInt8) : (Lib.trimPrefix l [102]).length ≤ l.length := by
  unfold Lib.trimPrefix
  split
  · simp
  · exact Nat.le_refl _
theorem own_row {w : World} {B b : Nat} {xs : List Int} (hB : B ≤ b) (hn : xs.length ≤ 2000000) (h : IntRow w b xs) : OwnI w B (.slice (some ⟨b, 0, none⟩) xs.length xs.length) xs := by
  obtain ⟨cs, hc, hlen, hcs⟩ := h
  refine ⟨by simp, .inr ⟨b, xs.length, cs, rfl, hB, hc, Nat.le_refl _, by unfold maxLen; omega, by simpa using hlen, ?_⟩⟩
  apply List.ext_getElem?
  intro i
  rcases Nat.lt_or_ge i xs.length with h | h
  · rw [List.getElem?_take, if_pos (by omega), Array.getElem?_toList, hcs i h, List.getElem?_map, List.getElem?_eq_getElem h]
    show some (Value.int .i64 (xs.getD i 0)) = some (Value.int .i64 xs[i])
    rw [List.getD_eq_getElem?_getD, List.getElem?_eq_getElem h]
    rfl
  · rw [List.getElem?_eq_none (by rw [List.length_take]; omega), List.getElem?_eq_none (by rw [List.length_map]; omega)]
theorem below5 {w w' : World} {B X : Nat} (h : Below B w w') (hX : B ≤ X) (v0 v1 v2 v3 v4 : Value) : Below B w (((((w'.setCell ⟨X, 0, none⟩ v0).setCell ⟨X, 1, none⟩ v1).setCell ⟨X, 2, none⟩ v2).setCell ⟨X, 3, none⟩ v3).setCell ⟨X, 4, none⟩ v4) :=
  ((((h.setCell hX _).setCell hX _).setCell hX _).setCell hX _).setCell hX _
theorem other5 (w : World) (X b : Nat) (v0 v1 v2 v3 v4 : Value) (h : b ≠ X) : (((((w.setCell ⟨X, 0, none⟩ v0).setCell ⟨X, 1, none⟩ v1).setCell ⟨X, 2, none⟩ v2).setCell ⟨X, 3, none⟩ v3).setCell ⟨X, 4, none⟩ v4).heap[b]? = w.heap[b]? := by
  rw [heap_setCell_other _ _ _ _ h, heap_setCell_other _ _ _ _ h, heap_setCell_other _ _ _ _ h, heap_setCell_other _ _ _ _ h, heap_setCell_other _ _ _ _ h]
theorem cut_lt (c : UInt8) (l : List UInt8) : (Lib.cut l [c]).2.1.length + 1 ≤ l.length ∨ (Lib.cut l [c]).2.1 = [] := by
  rcases cut_back c l with ⟨_, h⟩ | ⟨_, h⟩
  · left
    have := congrArg List.length h
    simp at this
    omega
  · exact .inr h
set_option maxRecDepth 20000 in
set_option maxHeartbeats 6400000 in
theorem readWish_c (s : ByteArray) (hs : s.size ≤ 1048576) (w : World) (hpow : Pow w) (hmx : Mx w) (hkw : Kw w) :
    Calls Tryz.prog 65 #[.string s] w (OutRead s w) := by
  have HP := Lib.hid hpow
  have HM := Lib.hid hmx
  have HK := Lib.hid hkw
  obtain ⟨wd, hwd⟩ : ∃ x, x = readWd s.data.toList := ⟨_, rfl⟩
  obtain ⟨r1, hr1⟩ : ∃ x, x = (Lib.cut s.data.toList [32]).2.1 := ⟨_, rfl⟩
  obtain ⟨b1, hb1⟩ : ∃ x, x = (Lib.cut s.data.toList [32]).2.2 := ⟨_, rfl⟩
  obtain ⟨fd, hfd⟩ : ∃ x, x = readFd s.data.toList := ⟨_, rfl⟩
  obtain ⟨ar, har⟩ : ∃ x, x = readAr s.data.toList := ⟨_, rfl⟩
  obtain ⟨b2, hb2⟩ : ∃ x, x = (Lib.cut r1 [32]).2.2 := ⟨_, rfl⟩
  have hcl := cut_le 32 s.data.toList
  have hcl2 := cut_le 32 r1
  rw [size_list, ← hr1] at hcl
  have hfd2 : fd = (Lib.cut r1 [32]).1 := by rw [hfd, hr1]; rfl
  have har2 : ar = (Lib.cut r1 [32]).2.1 := by rw [har, hr1]; rfl
  rw [← hfd2, ← har2] at hcl2
  have hz1 : (⟨r1.toArray⟩ : ByteArray).size ≤ 1048576 := by rw [size_mk]; omega
  have HZ : Hid ((⟨(Lib.trimPrefix fd [102]).toArray⟩ : ByteArray).size ≤ 1048576 ∧ (⟨ar.toArray⟩ : ByteArray).size ≤ 1048576) := Lib.hid (by rw [size_mk, size_mk]; have := trim_le fd; omega)
  have hcut1 : ∀ w, Mx w → Calls Tryz.prog 48 #[.string s, .string ⟨#[32]⟩] w fun e w' => e = .returned (.tuple #[.string ⟨wd.toArray⟩, .string ⟨r1.toArray⟩, .bool b1]) ∧ Below w.heap.size w w' := fun w ⟨m, hm⟩ => by
    refine (Tryz.strings_Cut s ⟨#[32]⟩ m w (by omega) hm).mono fun e w' ⟨he, n, hw⟩ => ⟨?_, hw ▸ below_drewN (Below.refl _ _) n⟩
    rw [he, hwd, hr1, hb1]; rfl
  have hcut2 : ∀ w, Mx w → Calls Tryz.prog 48 #[.string ⟨r1.toArray⟩, .string ⟨#[32]⟩] w fun e w' => e = .returned (.tuple #[.string ⟨fd.toArray⟩, .string ⟨ar.toArray⟩, .bool b2]) ∧ Below w.heap.size w w' := fun w ⟨m, hm⟩ => by
    refine (Tryz.strings_Cut ⟨r1.toArray⟩ ⟨#[32]⟩ m w (by omega) hm).mono fun e w' ⟨he, n, hw⟩ => ⟨?_, hw ▸ below_drewN (Below.refl _ _) n⟩
    rw [he, hfd2, har2, hb2]
  have HL : Hid (ar.length + 1 ≤ 1048576) := Lib.hid (by
    rcases cut_lt 32 r1 with h | h
    · rw [← har2] at h; omega
    · rw [← har2] at h; rw [h]; simp)
  have HC1 := Lib.hid hcut1
  have HC2 := Lib.hid hcut2
  obtain ⟨k, hk⟩ : ∃ x, x = kindI wd := ⟨_, rfl⟩
  obtain ⟨f, hf⟩ : ∃ x, x = pVal (Lib.trimPrefix fd [102]) := ⟨_, rfl⟩
  have HKd := Lib.hid (show kindI (⟨wd.toArray⟩ : ByteArray).data.toList = k from hk.symm)
  have HFd := Lib.hid (show pVal (⟨(Lib.trimPrefix fd [102]).toArray⟩ : ByteArray).data.toList = f from hf.symm)
  have HImp : Hid (∀ (v : Int) (ls : List Int) (ps : List (Int × Int)), (v = if k = 2 then pVal ar else 0) → (if k = 3 then (allOk (pieces 44 ar) = true → ls = (pieces 44 ar).map pVal) else ls = []) → (if k = 4 then ∃ ok, ParsedP ar ps ok else ps = []) → ImplW s.data.toList ⟨k, f, v, ls, ps⟩) := Lib.hid fun v ls ps h1 h2 h3 => ⟨by rw [← hwd]; exact hk, by rw [← hfd]; exact hf, by rw [← har]; exact h1, by rw [← har]; exact h2, by rw [← har]; exact h3⟩
  clear hpow hmx hkw hcl hcl2 hz1 hcut1 hcut2 hwd hr1 hb1 hfd har hb2 hfd2 har2 hk hf
  have hx := (Below.refl w.heap.size w).alloc (Nat.le_refl _) (.cells #[.int .i64 0, .int .i64 0, .int .i64 0, .slice none 0 0, .slice none 0 0] 39)
  have HX := Lib.hid hx
  clear hx
  go_enter Tryz.func65, Tryz.ntmps65
  go_wp2_with fail
  refine (HC1.out _ (HM.out.below HX.out)).mono ?_
  rintro e w1 ⟨rfl, hb⟩
  have HR1 : Hid (w1.heap[w.heap.size]? = some (.cells #[.int .i64 0, .int .i64 0, .int .i64 0, .slice none 0 0, .slice none 0 0] 39 (0, 0))) := Lib.hid ((hb.block w.heap.size (by simp)).trans (heap_alloc_new w _))
  have HB1 := Lib.hid (HX.out.trans (hb.mono HX.out.size))
  clear hb HX
  go_wp2_with fail
  refine (HC2.out w1 (HM.out.below HB1.out)).mono ?_
  rintro e w2 ⟨rfl, hb⟩
  have HR2 := Lib.hid ((hb.block w.heap.size (lt_of_block HR1.out)).trans HR1.out)
  have HB2 := Lib.hid (HB1.out.trans (hb.mono HB1.out.size))
  clear hb HR1 HB1 HC1 HC2
  go_wp2_with fail
  refine (kindOf_c ⟨wd.toArray⟩ w2 (HK.out.below HB2.out)).mono ?_
  rintro e w3 ⟨rfl, hb⟩
  rw [HKd.out]
  have HR3 := Lib.hid ((hb.block w.heap.size (lt_of_block HR2.out)).trans HR2.out)
  have HB3 := Lib.hid (HB2.out.trans (hb.mono HB2.out.size))
  have hlt : w.heap.size < w3.heap.size := lt_of_block HR3.out
  clear hb HR2 HB2 HKd
  have HB4 := Lib.hid (HB3.out.alloc HB3.out.size (.cells #[.int .i64 k, .int .i64 0, .int .i64 0, .slice none 0 0, .slice none 0 0] 39))
  have HR4 := Lib.hid ((Below.heap_alloc w3 (.cells #[.int .i64 k, .int .i64 0, .int .i64 0, .slice none 0 0, .slice none 0 0] 39) _ hlt).trans HR3.out)
  have HY4 := Lib.hid (heap_alloc_new w3 (.cells #[.int .i64 k, .int .i64 0, .int .i64 0, .slice none 0 0, .slice none 0 0] 39))
  clear HR3 HB3
  go_wp2_with fail
  refine (Tryz.strings_TrimPrefix ⟨fd.toArray⟩ ⟨#[102]⟩ _).mono ?_
  rintro e w4 ⟨rfl, hw4⟩
  rw [hw4]
  clear hw4
  go_wp2_with fail
  refine (iParse ⟨(Lib.trimPrefix fd [102]).toArray⟩ HZ.out.1 _ (HP.out.below HB4.out)).mono ?_
  rintro e w5 ⟨rfl, hb⟩
  rw [HFd.out]
  have HR5 := Lib.hid ((hb.block w.heap.size (lt_of_block HR4.out)).trans HR4.out)
  have HY5 := Lib.hid ((hb.block w3.heap.size (lt_of_block HY4.out)).trans HY4.out)
  have HB5 := Lib.hid (HB4.out.trans (hb.mono HB4.out.size))
  clear hb HR4 HB4 HY4 HFd
  have y0 : World.cell? w5 ⟨w3.heap.size, 0, none⟩ = some (.int .i64 k) := cell_of_row _ _ 0 _ _ (0, 0) HY5.out
  have y1 : World.cell? w5 ⟨w3.heap.size, 1, none⟩ = some (.int .i64 0) := cell_of_row _ _ 1 _ _ (0, 0) HY5.out
  have y2 : World.cell? w5 ⟨w3.heap.size, 2, none⟩ = some (.int .i64 0) := cell_of_row _ _ 2 _ _ (0, 0) HY5.out
  have y3 : World.cell? w5 ⟨w3.heap.size, 3, none⟩ = some (.slice none 0 0) := cell_of_row _ _ 3 _ _ (0, 0) HY5.out
  have y4 : World.cell? w5 ⟨w3.heap.size, 4, none⟩ = some (.slice none 0 0) := cell_of_row _ _ 4 _ _ (0, 0) HY5.out
  have u1 : w5.frozen? ⟨w3.heap.size, 1, none⟩ = false := frozen_of_row _ _ 1 _ _ HY5.out
  have HR6 : Hid ((w5.setCell ⟨w3.heap.size, 1, none⟩ (.int .i64 f)).heap[w.heap.size]? = some (.cells #[.int .i64 0, .int .i64 0, .int .i64 0, .slice none 0 0, .slice none 0 0] 39 (0, 0))) := Lib.hid ((heap_setCell_other _ _ _ _ (by simp; omega)).trans HR5.out)
  have HY6 : Hid ((w5.setCell ⟨w3.heap.size, 1, none⟩ (.int .i64 f)).heap[w3.heap.size]? = some (.cells #[.int .i64 k, .int .i64 f, .int .i64 0, .slice none 0 0, .slice none 0 0] 39 (0, 0))) := Lib.hid (by have h := heap_setCell_same w5 w3.heap.size 1 _ _ (.int .i64 f) HY5.out; simpa using h)
  have HB6 : Hid (Below w.heap.size w (w5.setCell ⟨w3.heap.size, 1, none⟩ (.int .i64 f))) := Lib.hid (HB5.out.setCell (by show w.heap.size ≤ w3.heap.size; omega) _)
  by_cases k2 : k = 2
  · subst k2
    obtain ⟨v, hv⟩ : ∃ x, x = pVal ar := ⟨_, rfl⟩
    have HV := Lib.hid (show pVal (⟨ar.toArray⟩ : ByteArray).data.toList = v from hv.symm)
    have HI := Lib.hid (HImp.out v [] [] (by rw [if_pos rfl]; exact hv) (by rw [if_neg (by decide)]) (by rw [if_neg (by decide)]))
    clear hv HImp
    go_wp2_with fail
    refine (iParse ⟨ar.toArray⟩ HZ.out.2 _ (HP.out.below HB6.out)).mono ?_
    rintro e w7 ⟨rfl, hb⟩
    rw [HV.out]
    have HR7 := Lib.hid ((hb.block w.heap.size (lt_of_block HR6.out)).trans HR6.out)
    have HY7 := Lib.hid ((hb.block w3.heap.size (lt_of_block HY6.out)).trans HY6.out)
    have HB7 := Lib.hid (HB6.out.trans (hb.mono HB6.out.size))
    have hsz : w3.heap.size < w5.heap.size := by have := lt_of_block HY5.out; omega
    clear hb
    clear y0 y1 y2 y3 y4 u1
    have y0 : World.cell? w7 ⟨w3.heap.size, 0, none⟩ = some (.int .i64 2) := cell_of_row _ _ 0 _ _ (0, 0) HY7.out
    have y1 : World.cell? w7 ⟨w3.heap.size, 1, none⟩ = some (.int .i64 f) := cell_of_row _ _ 1 _ _ (0, 0) HY7.out
    have y2 : World.cell? w7 ⟨w3.heap.size, 2, none⟩ = some (.int .i64 0) := cell_of_row _ _ 2 _ _ (0, 0) HY7.out
    have y3 : World.cell? w7 ⟨w3.heap.size, 3, none⟩ = some (.slice none 0 0) := cell_of_row _ _ 3 _ _ (0, 0) HY7.out
    have y4 : World.cell? w7 ⟨w3.heap.size, 4, none⟩ = some (.slice none 0 0) := cell_of_row _ _ 4 _ _ (0, 0) HY7.out
    have u2 : w7.frozen? ⟨w3.heap.size, 2, none⟩ = false := frozen_of_row _ _ 2 _ _ HY7.out
    have x0 : World.cell? w7 ⟨w.heap.size, 0, none⟩ = some (.int .i64 0) := cell_of_row _ _ 0 _ _ (0, 0) HR7.out
    have x1 : World.cell? w7 ⟨w.heap.size, 1, none⟩ = some (.int .i64 0) := cell_of_row _ _ 1 _ _ (0, 0) HR7.out
    have x2 : World.cell? w7 ⟨w.heap.size, 2, none⟩ = some (.int .i64 0) := cell_of_row _ _ 2 _ _ (0, 0) HR7.out
    have x3 : World.cell? w7 ⟨w.heap.size, 3, none⟩ = some (.slice none 0 0) := cell_of_row _ _ 3 _ _ (0, 0) HR7.out
    have x4 : World.cell? w7 ⟨w.heap.size, 4, none⟩ = some (.slice none 0 0) := cell_of_row _ _ 4 _ _ (0, 0) HR7.out
    have z0 : World.frozen? w7 ⟨w.heap.size, 0, none⟩ = false := frozen_of_row _ _ 0 _ _ HR7.out
    have z1 : World.frozen? w7 ⟨w.heap.size, 1, none⟩ = false := frozen_of_row _ _ 1 _ _ HR7.out
    have z2 : World.frozen? w7 ⟨w.heap.size, 2, none⟩ = false := frozen_of_row _ _ 2 _ _ HR7.out
    have z3 : World.frozen? w7 ⟨w.heap.size, 3, none⟩ = false := frozen_of_row _ _ 3 _ _ HR7.out
    have z4 : World.frozen? w7 ⟨w.heap.size, 4, none⟩ = false := frozen_of_row _ _ 4 _ _ HR7.out
    go_wp2
    refine bodyPost_ret_by (results_cell_row rfl _ _ w.heap.size 39 _ (0, 0) _ rfl (five_set ((heap_setCell_other _ _ _ _ (by simp; omega)).trans HR7.out)) Tryz.underlying39 rfl (by kernel_rfl)) rfl ?_
    exact ⟨⟨⟨2, f, v, none, 0, 0, [], none, 0, 0, []⟩, rfl, ⟨ownI_nil _ _, OwnP.nil _ _, by simp, by simp, fun k h => (by cases h)⟩, HI.out⟩, below5 (HB7.out.setCell (by show w.heap.size ≤ w3.heap.size; omega) _) (Nat.le_refl _) _ _ _ _ _⟩
  have f2 : (k == 2) = false := by simpa using k2
  by_cases k3 : k = 3
  · subst k3
    obtain ⟨L, hL⟩ : ∃ L, pieces 44 ar = L := ⟨_, rfl⟩
    have HLl : Hid (L.length ≤ 1048576) := Lib.hid (by rw [← hL]; have := pieces_count 44 ar; have := HL.out; omega)
    have HI := Lib.hid (fun ls (h : allOk L = true → ls = L.map pVal) => HImp.out 0 ls [] (by rw [if_neg (by decide)]) (by rw [if_pos rfl, hL]; exact h) (by rw [if_neg (by decide)]))
    have HLL := Lib.hid hL
    clear hL HImp k2 f2
    go_wp2_with fail
    refine (splitInts ⟨ar.toArray⟩ HZ.out.2 _ (HP.out.below HB6.out) (HM.out.below HB6.out) L HLL.out).mono ?_
    rintro e w7 ⟨⟨u, ok, rfl, hvals⟩, hb⟩
    have HR7 := Lib.hid ((hb.block w.heap.size (lt_of_block HR6.out)).trans HR6.out)
    have HY7 := Lib.hid ((hb.block w3.heap.size (lt_of_block HY6.out)).trans HY6.out)
    have HB7 := Lib.hid (HB6.out.trans (hb.mono HB6.out.size))
    have hsz : w3.heap.size < w5.heap.size := by have := lt_of_block HY5.out; omega
    clear hb
    clear y0 y1 y2 y3 y4 u1
    have y0 : World.cell? w7 ⟨w3.heap.size, 0, none⟩ = some (.int .i64 3) := cell_of_row _ _ 0 _ _ (0, 0) HY7.out
    have y1 : World.cell? w7 ⟨w3.heap.size, 1, none⟩ = some (.int .i64 f) := cell_of_row _ _ 1 _ _ (0, 0) HY7.out
    have y2 : World.cell? w7 ⟨w3.heap.size, 2, none⟩ = some (.int .i64 0) := cell_of_row _ _ 2 _ _ (0, 0) HY7.out
    have y3 : World.cell? w7 ⟨w3.heap.size, 3, none⟩ = some (.slice none 0 0) := cell_of_row _ _ 3 _ _ (0, 0) HY7.out
    have y4 : World.cell? w7 ⟨w3.heap.size, 4, none⟩ = some (.slice none 0 0) := cell_of_row _ _ 4 _ _ (0, 0) HY7.out
    have u3 : w7.frozen? ⟨w3.heap.size, 3, none⟩ = false := frozen_of_row _ _ 3 _ _ HY7.out
    have x0 : World.cell? w7 ⟨w.heap.size, 0, none⟩ = some (.int .i64 0) := cell_of_row _ _ 0 _ _ (0, 0) HR7.out
    have x1 : World.cell? w7 ⟨w.heap.size, 1, none⟩ = some (.int .i64 0) := cell_of_row _ _ 1 _ _ (0, 0) HR7.out
    have x2 : World.cell? w7 ⟨w.heap.size, 2, none⟩ = some (.int .i64 0) := cell_of_row _ _ 2 _ _ (0, 0) HR7.out
    have x3 : World.cell? w7 ⟨w.heap.size, 3, none⟩ = some (.slice none 0 0) := cell_of_row _ _ 3 _ _ (0, 0) HR7.out
    have x4 : World.cell? w7 ⟨w.heap.size, 4, none⟩ = some (.slice none 0 0) := cell_of_row _ _ 4 _ _ (0, 0) HR7.out
    have z0 : World.frozen? w7 ⟨w.heap.size, 0, none⟩ = false := frozen_of_row _ _ 0 _ _ HR7.out
    have z1 : World.frozen? w7 ⟨w.heap.size, 1, none⟩ = false := frozen_of_row _ _ 1 _ _ HR7.out
    have z2 : World.frozen? w7 ⟨w.heap.size, 2, none⟩ = false := frozen_of_row _ _ 2 _ _ HR7.out
    have z3 : World.frozen? w7 ⟨w.heap.size, 3, none⟩ = false := frozen_of_row _ _ 3 _ _ HR7.out
    have z4 : World.frozen? w7 ⟨w.heap.size, 4, none⟩ = false := frozen_of_row _ _ 4 _ _ HR7.out
    have HVs := Lib.hid hvals
    clear hvals
    rcases HVs.out with ⟨rfl, hno, rfl⟩ | ⟨rfl, hyes, b, rfl, hBb, hrow⟩
    · have HN := Lib.hid hno
      clear hno HVs
      go_wp2
      refine bodyPost_ret_by (results_cell_row rfl _ _ w.heap.size 39 _ (0, 0) _ rfl (five_set ((heap_setCell_other _ _ _ _ (by simp; omega)).trans HR7.out)) Tryz.underlying39 rfl (by kernel_rfl)) rfl ?_
      exact ⟨⟨⟨3, f, 0, none, 0, 0, [], none, 0, 0, []⟩, rfl, ⟨ownI_nil _ _, OwnP.nil _ _, by simp, by simp, fun k h => (by cases h)⟩, HI.out [] (fun h => by rw [HN.out] at h; cases h)⟩, below5 (HB7.out.setCell (by show w.heap.size ≤ w3.heap.size; omega) _) (Nat.le_refl _) _ _ _ _ _⟩
    · have HO := Lib.hid (own_row hBb (by rw [List.length_map]; have := HLl.out; omega) hrow)
      rw [List.length_map] at HO
      have hBb' : w5.heap.size ≤ b := by simpa using hBb
      clear hyes hBb hrow HVs
      go_wp2
      refine bodyPost_ret_by (results_cell_row rfl _ _ w.heap.size 39 _ (0, 0) _ rfl (five_set ((heap_setCell_other _ _ _ _ (by simp; omega)).trans HR7.out)) Tryz.underlying39 rfl (by kernel_rfl)) rfl ?_
      refine ⟨⟨⟨3, f, 0, some ⟨b, 0, none⟩, L.length, L.length, L.map pVal, none, 0, 0, []⟩, rfl, ⟨ownI_lowD' (ownI_blocks HO.out fun k hk => ?_) (by simp; omega), OwnP.nil _ _, by show (L.map pVal).length ≤ 1048576; rw [List.length_map]; exact HLl.out, by simp, fun k h e => (by cases e)⟩, HI.out _ fun _ => rfl⟩, below5 (HB7.out.setCell (by show w.heap.size ≤ w3.heap.size; omega) _) (Nat.le_refl _) _ _ _ _ _⟩
      have hkb := ownI_lows HO.out k hk
      simp at hkb
      exact (other5 _ _ _ _ _ _ _ _ (by omega)).trans (heap_setCell_other _ _ _ _ (by simp; omega))
  have f3 : (k == 3) = false := by simpa using k3
  by_cases k4 : k = 4
  · subst k4
    have HI := Lib.hid (fun ps (h : ∃ ok, ParsedP ar ps ok) => HImp.out 0 [] ps (by rw [if_neg (by decide)]) (by rw [if_neg (by decide)]) (by rw [if_pos rfl]; exact h))
    clear HImp k2 f2 k3 f3
    go_wp2_with fail
    refine (iParsePairs ⟨ar.toArray⟩ HZ.out.2 _ (HP.out.below HB6.out) (HM.out.below HB6.out)).mono ?_
    rintro e w7 ⟨⟨u, ps, ok, rfl, hown, hpar⟩, hb⟩
    obtain ⟨A, n, c, rfl, hpp⟩ := hown.pairs
    have HR7 := Lib.hid ((hb.block w.heap.size (lt_of_block HR6.out)).trans HR6.out)
    have HY7 := Lib.hid ((hb.block w3.heap.size (lt_of_block HY6.out)).trans HY6.out)
    have HB7 := Lib.hid (HB6.out.trans (hb.mono HB6.out.size))
    have hsz : w3.heap.size < w5.heap.size := by have := lt_of_block HY5.out; omega
    clear hb
    clear y0 y1 y2 y3 y4 u1
    have y0 : World.cell? w7 ⟨w3.heap.size, 0, none⟩ = some (.int .i64 4) := cell_of_row _ _ 0 _ _ (0, 0) HY7.out
    have y1 : World.cell? w7 ⟨w3.heap.size, 1, none⟩ = some (.int .i64 f) := cell_of_row _ _ 1 _ _ (0, 0) HY7.out
    have y2 : World.cell? w7 ⟨w3.heap.size, 2, none⟩ = some (.int .i64 0) := cell_of_row _ _ 2 _ _ (0, 0) HY7.out
    have y3 : World.cell? w7 ⟨w3.heap.size, 3, none⟩ = some (.slice none 0 0) := cell_of_row _ _ 3 _ _ (0, 0) HY7.out
    have y4 : World.cell? w7 ⟨w3.heap.size, 4, none⟩ = some (.slice none 0 0) := cell_of_row _ _ 4 _ _ (0, 0) HY7.out
    have u4 : w7.frozen? ⟨w3.heap.size, 4, none⟩ = false := frozen_of_row _ _ 4 _ _ HY7.out
    have x0 : World.cell? w7 ⟨w.heap.size, 0, none⟩ = some (.int .i64 0) := cell_of_row _ _ 0 _ _ (0, 0) HR7.out
    have x1 : World.cell? w7 ⟨w.heap.size, 1, none⟩ = some (.int .i64 0) := cell_of_row _ _ 1 _ _ (0, 0) HR7.out
    have x2 : World.cell? w7 ⟨w.heap.size, 2, none⟩ = some (.int .i64 0) := cell_of_row _ _ 2 _ _ (0, 0) HR7.out
    have x3 : World.cell? w7 ⟨w.heap.size, 3, none⟩ = some (.slice none 0 0) := cell_of_row _ _ 3 _ _ (0, 0) HR7.out
    have x4 : World.cell? w7 ⟨w.heap.size, 4, none⟩ = some (.slice none 0 0) := cell_of_row _ _ 4 _ _ (0, 0) HR7.out
    have z0 : World.frozen? w7 ⟨w.heap.size, 0, none⟩ = false := frozen_of_row _ _ 0 _ _ HR7.out
    have z1 : World.frozen? w7 ⟨w.heap.size, 1, none⟩ = false := frozen_of_row _ _ 1 _ _ HR7.out
    have z2 : World.frozen? w7 ⟨w.heap.size, 2, none⟩ = false := frozen_of_row _ _ 2 _ _ HR7.out
    have z3 : World.frozen? w7 ⟨w.heap.size, 3, none⟩ = false := frozen_of_row _ _ 3 _ _ HR7.out
    have z4 : World.frozen? w7 ⟨w.heap.size, 4, none⟩ = false := frozen_of_row _ _ 4 _ _ HR7.out
    have HO := Lib.hid hown
    have HPa := Lib.hid hpar
    clear hown hpar hpp
    go_wp2
    refine bodyPost_ret_by (results_cell_row rfl _ _ w.heap.size 39 _ (0, 0) _ rfl (five_set ((heap_setCell_other _ _ _ _ (by simp; omega)).trans HR7.out)) Tryz.underlying39 rfl (by kernel_rfl)) rfl ?_
    refine ⟨⟨⟨4, f, 0, none, 0, 0, [], A, n, c, ps⟩, rfl, ⟨ownI_nil _ _, ownP_lowD' (HO.out.blocks fun k hk => ?_) (by simp; omega), by simp, HPa.out.len, fun k h => (by cases h)⟩, HI.out ps ⟨ok, HPa.out⟩⟩, below5 (HB7.out.setCell (by show w.heap.size ≤ w3.heap.size; omega) _) (Nat.le_refl _) _ _ _ _ _⟩
    have hkb := HO.out.lows k hk
    simp at hkb
    exact (other5 _ _ _ _ _ _ _ _ (by omega)).trans (heap_setCell_other _ _ _ _ (by simp; omega))
  have f4 : (k == 4) = false := by simpa using k4
  have HI := Lib.hid (HImp.out 0 [] [] (by rw [if_neg k2]) (by rw [if_neg k3]) (by rw [if_neg k4]))
  clear HImp k2 k3 k4
  have x0 : World.cell? w5 ⟨w.heap.size, 0, none⟩ = some (.int .i64 0) := cell_of_row _ _ 0 _ _ (0, 0) HR5.out
  have x1 : World.cell? w5 ⟨w.heap.size, 1, none⟩ = some (.int .i64 0) := cell_of_row _ _ 1 _ _ (0, 0) HR5.out
  have x2 : World.cell? w5 ⟨w.heap.size, 2, none⟩ = some (.int .i64 0) := cell_of_row _ _ 2 _ _ (0, 0) HR5.out
  have x3 : World.cell? w5 ⟨w.heap.size, 3, none⟩ = some (.slice none 0 0) := cell_of_row _ _ 3 _ _ (0, 0) HR5.out
  have x4 : World.cell? w5 ⟨w.heap.size, 4, none⟩ = some (.slice none 0 0) := cell_of_row _ _ 4 _ _ (0, 0) HR5.out
  have z0 : World.frozen? w5 ⟨w.heap.size, 0, none⟩ = false := frozen_of_row _ _ 0 _ _ HR5.out
  have z1 : World.frozen? w5 ⟨w.heap.size, 1, none⟩ = false := frozen_of_row _ _ 1 _ _ HR5.out
  have z2 : World.frozen? w5 ⟨w.heap.size, 2, none⟩ = false := frozen_of_row _ _ 2 _ _ HR5.out
  have z3 : World.frozen? w5 ⟨w.heap.size, 3, none⟩ = false := frozen_of_row _ _ 3 _ _ HR5.out
  have z4 : World.frozen? w5 ⟨w.heap.size, 4, none⟩ = false := frozen_of_row _ _ 4 _ _ HR5.out
  go_wp2
  refine bodyPost_ret_by (results_cell_row rfl _ _ w.heap.size 39 _ (0, 0) _ rfl (five_set HR6.out) Tryz.underlying39 rfl (by kernel_rfl)) rfl ?_
  exact ⟨⟨⟨k, f, 0, none, 0, 0, [], none, 0, 0, []⟩, rfl, ⟨ownI_nil _ _, OwnP.nil _ _, by simp, by simp, fun k h => (by cases h)⟩, HI.out⟩, below5 HB6.out (Nat.le_refl _) _ _ _ _ _⟩
end Go.Proofs.YtadjoiahllekdaaGreatDoor.num
namespace Go.Proofs.YtadjoiahllekdaaGreatDoor.num
set_option maxRecDepth 20000
open Go.RowKit
set_option linter.unusedVariables false
set_option linter.unusedSimpArgs false

theorem pVal_in (l : List UInt8) : -999999999 ≤ pVal l ∧ pVal l ≤ 999999999 := by
  unfold pVal
  split
  · rename_i h
    have h' := of_decide_eq_true (p := (dgs l).length ≤ 9 ∧ (dgs l).all isD = true ∧ Lib.itoa (signed l (scanV (dgs l))) = l) h
    have := scanV_le9 (dgs l) h'.1
    unfold signed
    split <;> omega
  · omega
theorem kindI_in (l : List UInt8) : -1 ≤ kindI l ∧ kindI l ≤ 4 := by
  unfold kindI
  repeat' split
  all_goals omega
theorem ImplW.wf {s : List UInt8} {t : Wi} (h : ImplW s t.dat) : (Lit.int .i64 t.kind).wf = true ∧ (Lit.int .i64 t.field).wf = true ∧ (Lit.int .i64 t.value).wf = true := by
  have h1 : t.kind = _ := h.k
  have h2 : t.field = _ := h.f
  have h3 : t.value = _ := h.v
  have k1 := kindI_in (readWd s)
  have k2 := pVal_in (Lib.trimPrefix (readFd s) [102])
  have k3 := pVal_in (readAr s)
  refine ⟨WalkArith.wf_i64 ?_, WalkArith.wf_i64 ?_, WalkArith.wf_i64 ?_⟩
  · rw [h1]; omega
  · rw [h2]; omega
  · rw [h3]; split <;> omega
theorem ReadW.wi {w : World} {B : Nat} {t : Wi} {s : List UInt8} (h : ReadW w B t) (g : ImplW s t.dat) : WiIn w w.heap.size t := ⟨g.wf.1, g.wf.2.1, g.wf.2.2, ownI_at h.l, h.p.at⟩
theorem ReadW.short {w : World} {B : Nat} {t : Wi} (h : ReadW w B t) : t.Short := ⟨by have := (ownI_at h.l).1; have := h.nl; omega, by have := h.p.at.1; have := h.np; omega⟩
theorem ReadW.blocks {w w' : World} {B : Nat} {t : Wi} (h : ReadW w B t) (hb : ∀ b, B ≤ b → b < w.heap.size → w'.heap[b]? = w.heap[b]?) : ReadW w' B t :=
  ⟨ownI_blocks h.l fun k hk => hb k (ownI_lows h.l k hk) (ownI_tops h.l k hk), h.p.blocks fun k hk => hb k (h.p.lows k hk) (h.p.tops k hk), h.nl, h.np, h.ap⟩
theorem ReadW.low {w : World} {B B' : Nat} {t : Wi} (h : ReadW w B t) (hB : B' ≤ B) : ReadW w B' t := ⟨ownI_lowD' h.l hB, ownP_lowD' h.p hB, h.nl, h.np, h.ap⟩
def OutParseW (s : ByteArray) (w : World) (e : Ending) (w' : World) : Prop := (∃ (t : Wi) (ok : Bool), e = .returned (.tuple #[t.val, .bool ok]) ∧ ParsedW s.data.toList t.dat ok ∧ ReadW w' w.heap.size t) ∧ Below w.heap.size w w'
theorem empty_no {s : ByteArray} (h : s.data.toList = []) : ParsedW s.data.toList ⟨0, 0, 0, [], []⟩ false := .inr ⟨rfl, rfl, fun d' _ => by rw [h]; exact wishT_ne⟩
/-- The format asked for and got. -/
theorem fmt_back {d : WD} {q b : Bool} {s : ByteArray} (hq : q = true ↔ IsW d) (hs : s.data.toList ≠ []) (hb : b = true ↔ fmtW d q = s) : b = true ↔ IsW d ∧ wishT d = s.data.toList := by
  rw [hb]
  refine ⟨fun h => ?_, fun h => ?_⟩
  · cases q
    · exact (hs (by rw [← h]; rfl)).elim
    · exact ⟨hq.1 rfl, by rw [← h]; rfl⟩
  · rw [hq.2 h.1]
    exact bytes_ext h.2
theorem eq_lists {a s : ByteArray} {b : Bool} (hb : b = true ↔ a = s) : (a.toList == s.toList) = b := by
  rw [ByteArray.toList_eq, ByteArray.toList_eq]
  cases b
  · have : ¬ a.data.toList = s.data.toList := fun e => by have := hb.2 (bytes_ext e); cases this
    exact beq_eq_false_iff_ne.2 this
  · rw [hb.1 rfl]; simp

set_option maxRecDepth 20000 in
set_option maxHeartbeats 3200000 in
theorem iParseWish (s : ByteArray) (hs : s.size ≤ 1048576) (w : World) (hpow : Pow w) (hmx : Mx w) (hkw : Kw w) :
    Calls Tryz.prog 18 #[.string s] w (OutParseW s w) := by
  have hx := (Below.refl w.heap.size w).alloc (Nat.le_refl _) (.cells #[.int .i64 0, .int .i64 0, .int .i64 0, .slice none 0 0, .slice none 0 0] 39)
  have HC := Lib.hid (readWish_c s hs (w.alloc (.cells #[.int .i64 0, .int .i64 0, .int .i64 0, .slice none 0 0, .slice none 0 0] 39)) (hpow.below hx) (hmx.below hx) (hkw.below hx))
  have HPK := Lib.hid (And.intro hpow hkw)
  have HX := Lib.hid hx
  clear hpow hmx hkw hx
  go_enter Tryz.func18, Tryz.ntmps18
  go_wp2_with fail
  refine HC.out.mono ?_
  rintro e w1 h
  unfold OutRead at h
  obtain ⟨⟨t, rfl, hr, him⟩, hb⟩ := h
  rw [World.size_alloc] at hr
  have HR1 : Hid (w1.heap[w.heap.size]? = some (.cells #[.int .i64 0, .int .i64 0, .int .i64 0, .slice none 0 0, .slice none 0 0] 39 (0, 0))) := Lib.hid ((hb.block w.heap.size (by simp)).trans (heap_alloc_new w _))
  have HB1 := Lib.hid (HX.out.trans (hb.mono HX.out.size))
  have HRd := Lib.hid hr
  have HIm := Lib.hid him
  have hlt : w.heap.size < w1.heap.size := lt_of_block HR1.out
  clear hb hr him HX HC
  have HR2 := Lib.hid ((Below.heap_alloc w1 (.cells #[.int .i64 t.kind, .int .i64 t.field, .int .i64 t.value, .slice t.LA t.Ln t.Lc, .slice t.PA t.Pn t.Pc] 39) _ hlt).trans HR1.out)
  have HY2 := Lib.hid (heap_alloc_new w1 (.cells #[.int .i64 t.kind, .int .i64 t.field, .int .i64 t.value, .slice t.LA t.Ln t.Lc, .slice t.PA t.Pn t.Pc] 39))
  have HB2 := Lib.hid (HB1.out.alloc HB1.out.size (.cells #[.int .i64 t.kind, .int .i64 t.field, .int .i64 t.value, .slice t.LA t.Ln t.Lc, .slice t.PA t.Pn t.Pc] 39))
  have HRd2 : Hid (ReadW (w1.alloc (.cells #[.int .i64 t.kind, .int .i64 t.field, .int .i64 t.value, .slice t.LA t.Ln t.Lc, .slice t.PA t.Pn t.Pc] 39)) (w.heap.size + 1) t) := Lib.hid (HRd.out.blocks fun b _ hb => Below.heap_alloc _ _ _ hb)
  clear HRd
  have hval : t.val = .agg #[.int .i64 t.kind, .int .i64 t.field, .int .i64 t.value, .slice t.LA t.Ln t.Lc, .slice t.PA t.Pn t.Pc] := rfl
  rw [hval]
  clear hval
  by_cases hs0 : s.data.toList = []
  · have he : s.toList.isEmpty = true := by rw [ByteArray.toList_eq, hs0]; rfl
    have HE := Lib.hid hs0
    clear hs0
    have x0 : World.cell? w1 ⟨w.heap.size, 0, none⟩ = some (.int .i64 0) := cell_of_row _ _ 0 _ _ (0, 0) HR1.out
    have x1 : World.cell? w1 ⟨w.heap.size, 1, none⟩ = some (.int .i64 0) := cell_of_row _ _ 1 _ _ (0, 0) HR1.out
    have x2 : World.cell? w1 ⟨w.heap.size, 2, none⟩ = some (.int .i64 0) := cell_of_row _ _ 2 _ _ (0, 0) HR1.out
    have x3 : World.cell? w1 ⟨w.heap.size, 3, none⟩ = some (.slice none 0 0) := cell_of_row _ _ 3 _ _ (0, 0) HR1.out
    have x4 : World.cell? w1 ⟨w.heap.size, 4, none⟩ = some (.slice none 0 0) := cell_of_row _ _ 4 _ _ (0, 0) HR1.out
    have z0 : World.frozen? w1 ⟨w.heap.size, 0, none⟩ = false := frozen_of_row _ _ 0 _ _ HR1.out
    have z1 : World.frozen? w1 ⟨w.heap.size, 1, none⟩ = false := frozen_of_row _ _ 1 _ _ HR1.out
    have z2 : World.frozen? w1 ⟨w.heap.size, 2, none⟩ = false := frozen_of_row _ _ 2 _ _ HR1.out
    have z3 : World.frozen? w1 ⟨w.heap.size, 3, none⟩ = false := frozen_of_row _ _ 3 _ _ HR1.out
    have z4 : World.frozen? w1 ⟨w.heap.size, 4, none⟩ = false := frozen_of_row _ _ 4 _ _ HR1.out
    go_wp2
    refine bodyPost_ret_by (results_row_tmp rfl _ _ w.heap.size 39 _ (0, 0) _ rfl ((Below.heap_alloc _ _ _ (by simp; omega)).trans (five_set HR1.out)) Tryz.underlying39 rfl (by kernel_rfl)) rfl ?_
    exact ⟨⟨⟨0, 0, 0, none, 0, 0, [], none, 0, 0, []⟩, false, rfl, empty_no HE.out, ⟨ownI_nil _ _, OwnP.nil _ _, by simp, by simp, fun k h => (by cases h)⟩⟩, (below5 HB1.out (Nat.le_refl _) _ _ _ _ _).alloc (by simp; exact HB1.out.size) _⟩
  clear HR1 HB1
  have he : s.toList.isEmpty = false := by
    rw [ByteArray.toList_eq]
    cases h : s.data.toList with
    | nil => exact (hs0 h).elim
    | cons a l => rfl
  obtain ⟨q, hq⟩ := bool_of (IsW t.dat)
  obtain ⟨b, hb⟩ := bool_of (fmtW t.dat q = s)
  have hne := eq_lists hb
  obtain ⟨F, hF⟩ : ∃ F, fmtW t.dat q = F := ⟨_, rfl⟩
  have HBk := Lib.hid (fmt_back hq hs0 hb)
  rw [hF] at hne
  have HF := Lib.hid hF
  have HQ := Lib.hid hq
  clear hs0 hb hF hq
  have y0 : World.cell? (w1.alloc (.cells #[.int .i64 t.kind, .int .i64 t.field, .int .i64 t.value, .slice t.LA t.Ln t.Lc, .slice t.PA t.Pn t.Pc] 39)) ⟨w1.heap.size, 0, none⟩ = some (.int .i64 t.kind) := cell_of_row _ _ 0 _ _ (0, 0) HY2.out
  have y1 : World.cell? (w1.alloc (.cells #[.int .i64 t.kind, .int .i64 t.field, .int .i64 t.value, .slice t.LA t.Ln t.Lc, .slice t.PA t.Pn t.Pc] 39)) ⟨w1.heap.size, 1, none⟩ = some (.int .i64 t.field) := cell_of_row _ _ 1 _ _ (0, 0) HY2.out
  have y2 : World.cell? (w1.alloc (.cells #[.int .i64 t.kind, .int .i64 t.field, .int .i64 t.value, .slice t.LA t.Ln t.Lc, .slice t.PA t.Pn t.Pc] 39)) ⟨w1.heap.size, 2, none⟩ = some (.int .i64 t.value) := cell_of_row _ _ 2 _ _ (0, 0) HY2.out
  have y3 : World.cell? (w1.alloc (.cells #[.int .i64 t.kind, .int .i64 t.field, .int .i64 t.value, .slice t.LA t.Ln t.Lc, .slice t.PA t.Pn t.Pc] 39)) ⟨w1.heap.size, 3, none⟩ = some (.slice t.LA t.Ln t.Lc) := cell_of_row _ _ 3 _ _ (0, 0) HY2.out
  have y4 : World.cell? (w1.alloc (.cells #[.int .i64 t.kind, .int .i64 t.field, .int .i64 t.value, .slice t.LA t.Ln t.Lc, .slice t.PA t.Pn t.Pc] 39)) ⟨w1.heap.size, 4, none⟩ = some (.slice t.PA t.Pn t.Pc) := cell_of_row _ _ 4 _ _ (0, 0) HY2.out
  go_wp2_with fail
  refine (iFmtW _ _ t (HRd2.out.wi HIm.out) (Nat.le_refl _) HRd2.out.short q HQ.out (HPK.out.1.below HB2.out) (HPK.out.2.below HB2.out)).mono ?_
  rintro e w3 ⟨rfl, hb3⟩
  rw [HF.out]
  have HR3 := Lib.hid ((hb3.block w.heap.size (lt_of_block HR2.out)).trans HR2.out)
  have HY3 := Lib.hid ((hb3.block w1.heap.size (lt_of_block HY2.out)).trans HY2.out)
  have HB3 := Lib.hid (HB2.out.trans (hb3.mono HB2.out.size))
  have HRd3 : Hid (ReadW w3 (w.heap.size + 1) t) := Lib.hid (HRd2.out.blocks fun b _ hb => hb3.block b hb)
  clear hb3 y0 y1 y2 y3 y4 HR2 HY2 HB2 HRd2 HF HQ HPK
  have y0 : World.cell? w3 ⟨w1.heap.size, 0, none⟩ = some (.int .i64 t.kind) := cell_of_row _ _ 0 _ _ (0, 0) HY3.out
  have y1 : World.cell? w3 ⟨w1.heap.size, 1, none⟩ = some (.int .i64 t.field) := cell_of_row _ _ 1 _ _ (0, 0) HY3.out
  have y2 : World.cell? w3 ⟨w1.heap.size, 2, none⟩ = some (.int .i64 t.value) := cell_of_row _ _ 2 _ _ (0, 0) HY3.out
  have y3 : World.cell? w3 ⟨w1.heap.size, 3, none⟩ = some (.slice t.LA t.Ln t.Lc) := cell_of_row _ _ 3 _ _ (0, 0) HY3.out
  have y4 : World.cell? w3 ⟨w1.heap.size, 4, none⟩ = some (.slice t.PA t.Pn t.Pc) := cell_of_row _ _ 4 _ _ (0, 0) HY3.out
  have x0 : World.cell? w3 ⟨w.heap.size, 0, none⟩ = some (.int .i64 0) := cell_of_row _ _ 0 _ _ (0, 0) HR3.out
  have x1 : World.cell? w3 ⟨w.heap.size, 1, none⟩ = some (.int .i64 0) := cell_of_row _ _ 1 _ _ (0, 0) HR3.out
  have x2 : World.cell? w3 ⟨w.heap.size, 2, none⟩ = some (.int .i64 0) := cell_of_row _ _ 2 _ _ (0, 0) HR3.out
  have x3 : World.cell? w3 ⟨w.heap.size, 3, none⟩ = some (.slice none 0 0) := cell_of_row _ _ 3 _ _ (0, 0) HR3.out
  have x4 : World.cell? w3 ⟨w.heap.size, 4, none⟩ = some (.slice none 0 0) := cell_of_row _ _ 4 _ _ (0, 0) HR3.out
  have z0 : World.frozen? w3 ⟨w.heap.size, 0, none⟩ = false := frozen_of_row _ _ 0 _ _ HR3.out
  have z1 : World.frozen? w3 ⟨w.heap.size, 1, none⟩ = false := frozen_of_row _ _ 1 _ _ HR3.out
  have z2 : World.frozen? w3 ⟨w.heap.size, 2, none⟩ = false := frozen_of_row _ _ 2 _ _ HR3.out
  have z3 : World.frozen? w3 ⟨w.heap.size, 3, none⟩ = false := frozen_of_row _ _ 3 _ _ HR3.out
  have z4 : World.frozen? w3 ⟨w.heap.size, 4, none⟩ = false := frozen_of_row _ _ 4 _ _ HR3.out
  cases b
  · go_wp2
    refine bodyPost_ret_by (results_row_tmp rfl _ _ w.heap.size 39 _ (0, 0) _ rfl (five_set HR3.out) Tryz.underlying39 rfl (by kernel_rfl)) rfl ?_
    exact ⟨⟨⟨0, 0, 0, none, 0, 0, [], none, 0, 0, []⟩, false, rfl, HIm.out.no fun h => (by have := HBk.out.2 h; cases this), ⟨ownI_nil _ _, OwnP.nil _ _, by simp, by simp, fun k h => (by cases h)⟩⟩, below5 HB3.out (Nat.le_refl _) _ _ _ _ _⟩
  · have hbk := HBk.out.1 (by simp)
    have HG := Lib.hid hbk
    clear hbk HBk
    go_wp2
    refine bodyPost_ret_by (results_row_tmp rfl _ _ w.heap.size 39 _ (0, 0) _ rfl (five_set HR3.out) Tryz.underlying39 rfl (by kernel_rfl)) rfl ?_
    exact ⟨⟨t, true, rfl, .inl ⟨rfl, HG.out.1, HG.out.2⟩, (HRd3.out.blocks fun b hb _ => other5 _ _ _ _ _ _ _ _ (by omega)).low (by omega)⟩, below5 HB3.out (Nat.le_refl _) _ _ _ _ _⟩
end Go.Proofs.YtadjoiahllekdaaGreatDoor.num
namespace Go.Proofs.YtadjoiahllekdaaGreatDoor.num
set_option maxRecDepth 20000
open Go.RowKit Go.Maps
set_option linter.unusedVariables false
set_option linter.unusedSimpArgs false

/-- Behind k pieces: v holds the pairs that they read as; the pieces themselves lie untouched. -/
structure SpP (w w1 wr : World) (L : List (List UInt8)) (k : Nat) (v : Value) : Prop where
  own : OwnP wr w.heap.size v ((L.take k).map numP)
  apart : ∀ g, v.ownBlock = some g → g = w.heap.size ∨ w1.heap.size ≤ g
  keep : ∀ i, w.heap.size < i → i < w1.heap.size → wr.heap[i]? = w1.heap[i]?
  low : Below w.heap.size w wr
  sz : w1.heap.size ≤ wr.heap.size
  two : ∀ c ∈ L.take k, twoB c = true
theorem SpP.next {w w1 wr w4 w5 : World} {L : List (List UInt8)} {k : Nat} {v v' : Value} {c : List UInt8} {ob : Obj} (h : SpP w w1 wr L k v) (h01 : w.heap.size < w1.heap.size) (hc : L[k]? = some c) (h2 : twoB c = true) (hb : Below wr.heap.size wr w4) (hg : (w4.alloc ob).grownBy w5 v.ownBlock) (hv : v'.ownBlock = v.ownBlock ∨ v'.ownBlock = some (w4.alloc ob).heap.size)
    (ho : OwnP w5 w.heap.size v' ((L.take k).map numP ++ [numP c])) : SpP w w1 w5 L (k + 1) v' := by
  have hs4 := hb.size
  have hs := h.sz
  refine ⟨?_, fun g hgv => ?_, fun i h1 h2 => ?_, ?_, ?_, ?_⟩
  · rw [ptake_at hc, List.map_append]; exact ho
  · rcases hv with e | e
    · exact h.apart g (by rw [← e]; exact hgv)
    · rw [e] at hgv
      have := Option.some.inj hgv
      simp at this
      exact .inr (by omega)
  · have hne : some i ≠ v.ownBlock := fun e => by
      rcases h.apart i e.symm with h' | h' <;> omega
    rw [hg.block i (by simp; omega) hne, Below.heap_alloc _ _ _ (by omega), hb.block i (by omega)]
    exact h.keep i h1 h2
  · refine Below.grown ((h.low.trans (hb.mono (by omega))).alloc (by have := h.low.size; omega) ob) hg (by have := h.low.size; simp; omega) (fun g hgv => ?_)
    rcases h.apart g hgv with e | e <;> omega
  · have := hg.size
    simp at this
    omega
  · intro d hd
    rw [ptake_at hc] at hd
    rcases List.mem_append.1 hd with hd | hd
    · exact h.two d hd
    · rw [List.mem_singleton.1 hd]; exact h2
end Go.Proofs.YtadjoiahllekdaaGreatDoor.num
namespace Go.Proofs.YtadjoiahllekdaaGreatDoor.num
set_option maxRecDepth 20000
open Go.RowKit
set_option linter.unusedVariables false

theorem OwnI.below {w w' : World} {B : Nat} {v : Value} {l : List Int} (h : OwnI w B v l) (hb : Below w.heap.size w w') : OwnI w' B v l := by
  obtain ⟨h1, h2⟩ := h
  refine ⟨h1, ?_⟩
  rcases h2 with h2 | ⟨g, cap, cur, hv, hg, hh, r⟩
  · exact Or.inl h2
  · exact Or.inr ⟨g, cap, cur, hv, hg, (hb.block g (lt_of_block hh)).trans hh, r⟩
theorem OwnI.low {w : World} {B : Nat} {v : Value} {l : List Int} (h : OwnI w B v l) : ∃ A n c, v = .slice A n c ∧ Ints w w.heap.size A n l ∧ ∀ b off : Nat, A = some ⟨b, off, none⟩ → B ≤ b := by
  obtain ⟨A, n, c, rfl, hi⟩ := h.ints
  refine ⟨A, n, c, rfl, hi, fun b off hA => ?_⟩
  rcases h.2 with ⟨hv, _⟩ | ⟨g, cap, cur, hv, hgB, _, _⟩
  · injection hv with h1; rw [h1] at hA; cases hA
  · injection hv with h1
    rw [h1] at hA
    injection hA with hA
    injection hA with hA
    omega

end Go.Proofs.YtadjoiahllekdaaGreatDoor.num
namespace Go.Proofs.YtadjoiahllekdaaGreatDoor.num
set_option maxRecDepth 20000
open Go.RowKit
set_option linter.unusedVariables false
set_option linter.unusedSimpArgs false

theorem read_zero (w : World) (B : Nat) : ReadW w B ⟨0, 0, 0, none, 0, 0, [], none, 0, 0, []⟩ := ⟨ownI_nil _ _, OwnP.nil _ _, by simp, by simp, fun k h => (by cases h)⟩
end Go.Proofs.YtadjoiahllekdaaGreatDoor.num
namespace Go.Proofs.YtadjoiahllekdaaGreatDoor.num
set_option maxRecDepth 20000
open Go.RowKit
set_option linter.unusedVariables false
set_option linter.unusedSimpArgs false

/-- What marks have been laid: the wish's slices hold them. -/
structure MarkedW (w : World) (B : Nat) (t : Wi) : Prop where
  l : OwnI w B (.slice t.LA t.Ln t.Lc) (marks 1 t.ls.length)
  p : OwnP w B (.slice t.PA t.Pn t.Pc) (pmarks (1 + t.ls.length) t.ps.length)
theorem MarkedW.blocks {w w' : World} {B : Nat} {t : Wi} (h : MarkedW w B t) (hb : ∀ b, B ≤ b → b < w.heap.size → w'.heap[b]? = w.heap[b]?) : MarkedW w' B t :=
  ⟨ownI_blocks h.l fun k hk => hb k (ownI_lows h.l k hk) (ownI_tops h.l k hk), h.p.blocks fun k hk => hb k (h.p.lows k hk) (h.p.tops k hk)⟩
theorem MarkedW.below {w w' : World} {B : Nat} {t : Wi} (h : MarkedW w B t) (hb : Below w.heap.size w w') : MarkedW w' B t := h.blocks fun b _ hlt => hb.block b hlt

end Go.Proofs.YtadjoiahllekdaaGreatDoor.num
namespace Go.Proofs.YtadjoiahllekdaaGreatDoor.num
set_option maxRecDepth 20000
open Go.RowKit
set_option linter.unusedVariables false
set_option linter.unusedSimpArgs false

theorem ascUp_len {l : List Int} (h : AscUp l) : l.length ≤ 10 := by
  have hi : ∀ (i : Nat) x, l[i]? = some x → (i : Int) ≤ x := by
    intro i
    induction i with
    | zero => intro x hx; exact (h.1 x (List.mem_of_getElem? hx)).1
    | succ i ih =>
      intro x hx
      have hlt : i < l.length := by have := (List.getElem?_eq_some_iff.1 hx).1; omega
      have h1 := List.getElem?_eq_getElem hlt
      have h2 := ih _ h1
      have h3 := h.2 i _ _ h1 hx
      omega
  rcases Nat.lt_or_ge 10 l.length with hl | hl
  · have h1 := List.getElem?_eq_getElem (show 10 < l.length from hl)
    have h2 := hi 10 _ h1
    have h3 := (h.1 _ (List.mem_of_getElem? h1)).2
    omega
  · exact hl
theorem ParsedW.small {s : List UInt8} {d : WD} {ok : Bool} (h : ParsedW s d ok) : d.ls.length ≤ 1000 ∧ d.ps.length ≤ 1000 := by
  rcases h with ⟨_, h, _⟩ | ⟨_, rfl, _⟩
  · have h1 := h.l
    have h2 := h.p
    refine ⟨?_, ?_⟩
    · split at h1
      · have := ascUp_len h1.2; omega
      · rw [h1]; simp
    · split at h2
      · have := h2.2; omega
      · rw [h2]; simp
  · exact ⟨by simp, by simp⟩
theorem Box5.keep {w w' : World} {g : Nat} {t : Wi} (h : Box5 w g t) (hb : w'.heap[g]? = w.heap[g]?) : Box5 w' g t := by
  obtain ⟨h0, h1, h2, h3, h4, h5⟩ := h
  have c0 := (World.cell?_of_block (a := ⟨g, 0, none⟩) hb).trans h1
  exact ⟨World.block_lt_of_cell? w' _ c0, c0, (World.cell?_of_block (a := ⟨g, 1, none⟩) hb).trans h2, (World.cell?_of_block (a := ⟨g, 2, none⟩) hb).trans h3, (World.cell?_of_block (a := ⟨g, 3, none⟩) hb).trans h4, (World.cell?_of_block (a := ⟨g, 4, none⟩) hb).trans h5⟩
end Go.Proofs.YtadjoiahllekdaaGreatDoor.num
namespace Go.Proofs.YtadjoiahllekdaaGreatDoor.num
set_option maxRecDepth 20000
open Go.RowKit
set_option linter.unusedVariables false
set_option linter.unusedSimpArgs false

theorem owB_list (i : Nat) : (owB i).data.toList = owT.getD i [] := by simp [owB]
theorem ow_beq (i : Nat) (s : ByteArray) (b : Bool) (h : b = true ↔ s.data.toList = owT.getD i []) : ((owB i).toList == s.toList) = b := by
  rw [ByteArray.toList_eq, ByteArray.toList_eq, owB_list]
  cases b
  · have : ¬ owT.getD i [] = s.data.toList := fun e => by
      have := h.2 e.symm
      cases this
    exact beq_eq_false_iff_ne.2 this
  · exact beq_iff_eq.2 (h.1 rfl).symm
/-- The operators' words below k, which a text is not. -/
def NotOw (s : List UInt8) (k : Nat) : Prop := ∀ i, 1 ≤ i → i < k → s ≠ owT.getD i []
theorem NotOw.step {s : List UInt8} {k : Nat} (h : NotOw s k) (hn : s ≠ owT.getD k []) : NotOw s (k + 1) := fun i h1 h2 => by
  rcases Nat.lt_or_ge i k with g | g
  · exact h i h1 g
  · obtain rfl : i = k := by omega
    exact hn
def zW0 : Wi := ⟨0, 0, 0, none, 0, 0, [], none, 0, 0, []⟩
theorem no_node {s : List UInt8} (h : NotOw s 5) (g : ∀ d', IsW d' → wishT d' ≠ s) : ∀ nd', NodeV nd' → nodeT nd' ≠ s := fun nd' hv => by
  rcases hv with ⟨h0, hw⟩ | ⟨ho, _⟩
  · rw [nodeT, if_pos h0]; exact g _ hw
  · rw [nodeT, if_neg (by omega)]
    intro e
    exact h nd'.op.toNat (by omega) (by omega) e.symm
theorem op_node {s : List UInt8} {k : Nat} (h1 : 1 ≤ k) (h2 : k ≤ 4) (e : s = owT.getD k []) : ParsedN s (Nd.mk (k : Int) zW0).dat true :=
  .inl ⟨rfl, .inr ⟨by show (k : Int) = 1 ∨ (k : Int) = 2 ∨ (k : Int) = 3 ∨ (k : Int) = 4; omega, ⟨rfl, rfl, rfl, rfl, rfl⟩⟩, by
    rw [nodeT, if_neg (by show ¬ (k : Int) = 0; omega)]
    show owT.getD (k : Int).toNat [] = s
    rw [Int.toNat_natCast, e]⟩
theorem wish_node {s : List UInt8} {t : Wi} {ok : Bool} (h : NotOw s 5) (g : ParsedW s t.dat ok) : ParsedN s (Nd.mk 0 t).dat ok := by
  rcases g with ⟨rfl, h1, h2⟩ | ⟨rfl, _, h2⟩
  · exact .inl ⟨rfl, .inl ⟨rfl, h1⟩, by rw [nodeT, if_pos (show (Nd.mk 0 t).dat.op = 0 from rfl)]; exact h2⟩
  · exact .inr (.inr ⟨rfl, no_node h h2⟩)
theorem wf_op {k : Nat} (h : k ≤ 4) : (Lit.int .i64 (k : Int)).wf = true := by
  rcases (show k = 0 ∨ k = 1 ∨ k = 2 ∨ k = 3 ∨ k = 4 by omega) with rfl | rfl | rfl | rfl | rfl <;> rfl
theorem below6 {w w' : World} {B X : Nat} (h : Below B w w') (hX : B ≤ X) (v0 v1 v2 v3 v4 v5 : Value) : Below B w ((((((w'.setCell ⟨X, 0, none⟩ v0).setCell ⟨X, 1, none⟩ v1).setCell ⟨X, 2, none⟩ v2).setCell ⟨X, 3, none⟩ v3).setCell ⟨X, 4, none⟩ v4).setCell ⟨X, 5, none⟩ v5) :=
  (below5 h hX _ _ _ _ _).setCell hX _
theorem other6 (w : World) (X b : Nat) (v0 v1 v2 v3 v4 v5 : Value) (h : b ≠ X) : ((((((w.setCell ⟨X, 0, none⟩ v0).setCell ⟨X, 1, none⟩ v1).setCell ⟨X, 2, none⟩ v2).setCell ⟨X, 3, none⟩ v3).setCell ⟨X, 4, none⟩ v4).setCell ⟨X, 5, none⟩ v5).heap[b]? = w.heap[b]? := by
  rw [heap_setCell_other _ _ _ _ h, other5 _ _ _ _ _ _ _ _ h]
theorem ReadW.wiO {w : World} {B : Nat} {t : Wi} (h : ReadW w B t) (g : (Lit.int .i64 t.kind).wf = true ∧ (Lit.int .i64 t.field).wf = true ∧ (Lit.int .i64 t.value).wf = true) : WiO w B t := ⟨g.1, g.2.1, g.2.2, h.l, h.p, h.ap⟩
theorem zero_wiO (w : World) (B : Nat) : WiO w B zW0 := (read_zero w B).wiO ⟨rfl, rfl, rfl⟩
theorem ParsedW.wf {s : List UInt8} {t : Wi} {ok : Bool} (h : ParsedW s t.dat ok) : (Lit.int .i64 t.kind).wf = true ∧ (Lit.int .i64 t.field).wf = true ∧ (Lit.int .i64 t.value).wf = true := by
  rcases h with ⟨_, h, _⟩ | ⟨_, h, _⟩
  · have h1 : 0 ≤ t.kind ∧ t.kind ≤ 4 := h.k
    have h2 : 0 ≤ t.field ∧ t.field ≤ 2 := h.f
    have h3 : if t.kind = 2 then InR t.value else t.value = 0 := h.v
    refine ⟨WalkArith.wf_i64 (by omega), WalkArith.wf_i64 (by omega), WalkArith.wf_i64 ?_⟩
    unfold InR at h3
    split at h3 <;> omega
  · have h1 : t.kind = 0 := congrArg WD.kind h
    have h2 : t.field = 0 := congrArg WD.field h
    have h3 : t.value = 0 := congrArg WD.value h
    rw [h1, h2, h3]; exact ⟨rfl, rfl, rfl⟩
/-- What the program hands back. -/
def OutNI (s : ByteArray) (w : World) (e : Ending) (w' : World) : Prop := (∃ (nd : Nd) (ok : Bool), e = .returned (.tuple #[nd.val, .bool ok]) ∧ ParsedN s.data.toList nd.dat ok ∧ (Lit.int .i64 nd.op).wf = true ∧ WiO w' (w.heap.size + 1) nd.t ∧ nd.t.Short) ∧ Below w.heap.size w w'
set_option maxHeartbeats 3200000 in
theorem iParseNode (s : ByteArray) (hs : s.size ≤ 1048576) (w : World) (hpow : Pow w) (hmx : Mx w) (hkw : Kw w) (how : Ow w) :
    Calls Tryz.prog 70 #[.string s] w (OutNI s w) := by
  have HPo := Lib.hid hpow
  have HMx := Lib.hid hmx
  have HKw := Lib.hid hkw
  obtain ⟨kb, ko, kc, k0, kg, kh, k1⟩ := how
  have HK := Lib.hid k1
  clear k1 hpow hmx hkw
  go_enter Tryz.func70, Tryz.ntmps70
  go_wp2
  go_loopw [4] (fun iv wr => ∃ k : Nat, 1 ≤ k ∧ k ≤ 5 ∧ iv = .int .i64 k ∧ NotOw s.data.toList k ∧ wr.heap[w.heap.size]? = some (.cells #[.int .i64 0, .int .i64 0, .int .i64 0, .int .i64 0, .slice none 0 0, .slice none 0 0] 92 (0, 0)) ∧ Below w.heap.size w wr) (fun iv _ => 5 - (intOf iv).toNat)
  case atStart => exact ⟨1, by omega, by omega, rfl, fun i h1 h2 => by omega, heap_alloc_new w _, (Below.refl _ w).alloc (Nat.le_refl _) _⟩
  case round =>
    obtain ⟨k, hk1, hk, rfl, hny, hrow, hbel⟩ := hrel
    have HN := Lib.hid hny
    have HB := Lib.hid hbel
    have HR := Lib.hid hrow
    have hlt : w.heap.size < wr.heap.size := lt_of_block hrow
    have k0' : wr.cell? ⟨1, 0, none⟩ = some (.slice (some ⟨kb, ko, none⟩) 5 kc) := (HB.out.cell (p := ⟨1, 0, none⟩) kg).trans k0
    clear hny hbel hrow
    by_cases hk5 : k ≤ 4
    · obtain ⟨b, hb⟩ := bool_of (s.data.toList = owT.getD k [])
      have hcell : wr.cell? ⟨kb, ko + k, none⟩ = some (.string (owB k)) := (HB.out.cell (p := ⟨kb, ko + k, none⟩) kh).trans (HK.out k (by omega))
      have he := ow_beq k s b hb
      have HBb := Lib.hid hb
      have hd : decide ((k : Int) ≤ 4) = true := by simp; omega
      clear hb
      cases b
      · have HNy := Lib.hid (HN.out.step fun e => by have := HBb.out.2 e; cases this)
        go_wp2
        go_roundw
        case rel => exact ⟨k + 1, by omega, by omega, by go_num, HNy.out, HR.out, HB.out⟩
        case measure => simp [intOf]; omega
      · have HP := Lib.hid (op_node hk1 hk5 (HBb.out.1 rfl))
        have x0 : World.cell? wr ⟨w.heap.size, 0, none⟩ = some (.int .i64 0) := cell_of_row _ _ 0 _ _ (0, 0) HR.out
        have x1 : World.cell? wr ⟨w.heap.size, 1, none⟩ = some (.int .i64 0) := cell_of_row _ _ 1 _ _ (0, 0) HR.out
        have x2 : World.cell? wr ⟨w.heap.size, 2, none⟩ = some (.int .i64 0) := cell_of_row _ _ 2 _ _ (0, 0) HR.out
        have x3 : World.cell? wr ⟨w.heap.size, 3, none⟩ = some (.int .i64 0) := cell_of_row _ _ 3 _ _ (0, 0) HR.out
        have x4 : World.cell? wr ⟨w.heap.size, 4, none⟩ = some (.slice none 0 0) := cell_of_row _ _ 4 _ _ (0, 0) HR.out
        have x5 : World.cell? wr ⟨w.heap.size, 5, none⟩ = some (.slice none 0 0) := cell_of_row _ _ 5 _ _ (0, 0) HR.out
        have z0 : World.frozen? wr ⟨w.heap.size, 0, none⟩ = false := frozen_of_row _ _ 0 _ _ HR.out
        have z1 : World.frozen? wr ⟨w.heap.size, 1, none⟩ = false := frozen_of_row _ _ 1 _ _ HR.out
        have z2 : World.frozen? wr ⟨w.heap.size, 2, none⟩ = false := frozen_of_row _ _ 2 _ _ HR.out
        have z3 : World.frozen? wr ⟨w.heap.size, 3, none⟩ = false := frozen_of_row _ _ 3 _ _ HR.out
        have z4 : World.frozen? wr ⟨w.heap.size, 4, none⟩ = false := frozen_of_row _ _ 4 _ _ HR.out
        have z5 : World.frozen? wr ⟨w.heap.size, 5, none⟩ = false := frozen_of_row _ _ 5 _ _ HR.out
        go_wp2
        refine bodyPost_ret_by (results_row_tmp rfl _ _ w.heap.size 92 _ (0, 0) _ rfl (six_set HR.out) Tryz.underlying92 rfl (by kernel_rfl)) rfl ?_
        exact ⟨⟨⟨(k : Int), zW0⟩, true, rfl, HP.out, wf_op hk5, zero_wiO _ _, ⟨by simp [zW0], by simp [zW0]⟩⟩, below6 HB.out (Nat.le_refl _) _ _ _ _ _ _⟩
    · have hd : decide ((k : Int) ≤ 4) = false := by simp; omega
      have HN5 : Hid (NotOw s.data.toList 5) := Lib.hid (by have h := HN.out; rwa [show k = 5 by omega] at h)
      go_wp2_with fail
      refine (iParseWish s hs wr (HPo.out.below HB.out) (HMx.out.below HB.out) (HKw.out.below HB.out)).mono ?_
      rintro e w1 ⟨⟨t, ok, rfl, hp, hi⟩, hb1⟩
      have HR1 : Hid (w1.heap[w.heap.size]? = some (.cells #[.int .i64 0, .int .i64 0, .int .i64 0, .int .i64 0, .slice none 0 0, .slice none 0 0] 92 (0, 0))) := Lib.hid ((hb1.block w.heap.size hlt).trans HR.out)
      have HB1 := Lib.hid (below_on HB.out hb1)
      have HP := Lib.hid (wish_node HN5.out hp)
      have HI := Lib.hid (hi.wiO hp.wf)
      have HS := Lib.hid hi.short
      have hlt1 : w.heap.size < w1.heap.size := lt_of_block HR1.out
      clear hp hi hb1 k0'
      have x0 : World.cell? w1 ⟨w.heap.size, 0, none⟩ = some (.int .i64 0) := cell_of_row _ _ 0 _ _ (0, 0) HR1.out
      have x1 : World.cell? w1 ⟨w.heap.size, 1, none⟩ = some (.int .i64 0) := cell_of_row _ _ 1 _ _ (0, 0) HR1.out
      have x2 : World.cell? w1 ⟨w.heap.size, 2, none⟩ = some (.int .i64 0) := cell_of_row _ _ 2 _ _ (0, 0) HR1.out
      have x3 : World.cell? w1 ⟨w.heap.size, 3, none⟩ = some (.int .i64 0) := cell_of_row _ _ 3 _ _ (0, 0) HR1.out
      have x4 : World.cell? w1 ⟨w.heap.size, 4, none⟩ = some (.slice none 0 0) := cell_of_row _ _ 4 _ _ (0, 0) HR1.out
      have x5 : World.cell? w1 ⟨w.heap.size, 5, none⟩ = some (.slice none 0 0) := cell_of_row _ _ 5 _ _ (0, 0) HR1.out
      have z0 : World.frozen? w1 ⟨w.heap.size, 0, none⟩ = false := frozen_of_row _ _ 0 _ _ HR1.out
      have z1 : World.frozen? w1 ⟨w.heap.size, 1, none⟩ = false := frozen_of_row _ _ 1 _ _ HR1.out
      have z2 : World.frozen? w1 ⟨w.heap.size, 2, none⟩ = false := frozen_of_row _ _ 2 _ _ HR1.out
      have z3 : World.frozen? w1 ⟨w.heap.size, 3, none⟩ = false := frozen_of_row _ _ 3 _ _ HR1.out
      have z4 : World.frozen? w1 ⟨w.heap.size, 4, none⟩ = false := frozen_of_row _ _ 4 _ _ HR1.out
      have z5 : World.frozen? w1 ⟨w.heap.size, 5, none⟩ = false := frozen_of_row _ _ 5 _ _ HR1.out
      unfold Wi.val
      have HB6 : Hid (∀ (v0 v1 v2 v3 v4 v5 : Value) (o : Obj), Below w.heap.size w (((((((w1.setCell ⟨w.heap.size, 0, none⟩ v0).setCell ⟨w.heap.size, 1, none⟩ v1).setCell ⟨w.heap.size, 2, none⟩ v2).setCell ⟨w.heap.size, 3, none⟩ v3).setCell ⟨w.heap.size, 4, none⟩ v4).setCell ⟨w.heap.size, 5, none⟩ v5).alloc o)) := Lib.hid fun v0 v1 v2 v3 v4 v5 o =>
        (below6 HB1.out (Nat.le_refl _) v0 v1 v2 v3 v4 v5).alloc (below6 HB1.out (Nat.le_refl _) v0 v1 v2 v3 v4 v5).size o
      have HR6 : Hid (∀ (v0 v1 v2 v3 v4 v5 : Value) (o : Obj), (((((((w1.setCell ⟨w.heap.size, 0, none⟩ v0).setCell ⟨w.heap.size, 1, none⟩ v1).setCell ⟨w.heap.size, 2, none⟩ v2).setCell ⟨w.heap.size, 3, none⟩ v3).setCell ⟨w.heap.size, 4, none⟩ v4).setCell ⟨w.heap.size, 5, none⟩ v5).alloc o).heap[w.heap.size]? = some (.cells #[v0, v1, v2, v3, v4, v5] 92 (0, 0))) := Lib.hid fun v0 v1 v2 v3 v4 v5 o =>
        (heap_alloc_old _ o (lt_of_block (six_set HR1.out))).trans (six_set HR1.out)
      have HI6 : Hid (∀ (v0 v1 v2 v3 v4 v5 : Value) (o : Obj), WiO (((((((w1.setCell ⟨w.heap.size, 0, none⟩ v0).setCell ⟨w.heap.size, 1, none⟩ v1).setCell ⟨w.heap.size, 2, none⟩ v2).setCell ⟨w.heap.size, 3, none⟩ v3).setCell ⟨w.heap.size, 4, none⟩ v4).setCell ⟨w.heap.size, 5, none⟩ v5).alloc o) (w.heap.size + 1) t) := Lib.hid fun v0 v1 v2 v3 v4 v5 o => WiO.low (WiO.blocks HI.out fun b hb => by
          have g1 := (HI.out.has_in hb).1
          have g2 := (HI.out.has_in hb).2
          have g3 := (below6 (Below.refl w.heap.size w1) (Nat.le_refl _) v0 v1 v2 v3 v4 v5).size
          rw [heap_alloc_old _ o (by omega), other6 _ _ _ _ _ _ _ _ _ (by omega)]) (by omega)
      go_wp2
      refine bodyPost_ret_by (results_row_tmp rfl _ _ w.heap.size 92 _ (0, 0) _ rfl (HR6.out _ _ _ _ _ _ _) Tryz.underlying92 rfl (by kernel_rfl)) rfl ?_
      exact ⟨⟨⟨0, t⟩, ok, rfl, HP.out, rfl, HI6.out _ _ _ _ _ _ _, HS.out⟩, HB6.out _ _ _ _ _ _ _⟩
end Go.Proofs.YtadjoiahllekdaaGreatDoor.num
