/- Contracts of functions that the laws of this chapter call, packed. -/
import Derived.Test.YtnbgmiiknndleaaGreatBoA
import Derived.Test.YtnbgmiiknndleaaGreatExpSpec
import Derived.Lib.SliceRun
import Derived.Deep.RegionLaw
import Derived.BigQuiet
import Derived.Test.YtnbgmiiknndleaaGreatAscUp
import Derived.Test.YtnbgmiiknndleaaGreatItemIds
import Derived.Test.YtnbgmiiknndleaaGreatWishImpl
import Derived.Test.YtnbgmiiknndleaaGreatPairMark
import Derived.Test.YtnbgmiiknndleaaGreatItemImpl
import Derived.Test.YtnbgmiiknndleaaGreatPairMarkI
import Derived.Sort.WalkA
import Derived.Shelf.SlSortCmp.InsertionK
import Derived.ChangeSame
import Derived.Lib.AppendZeros
import Derived.RangeFuncBox
import Derived.RangeFuncNested
import Derived.RangeFuncLeaves
import Derived.RangeFuncBound
import Derived.RangeFuncCalls
import Derived.Shelf.Abstract
import Derived.WalkKit
import Derived.OwnWalkIn
import Derived.TacticsInMore
import Derived.LoopNIn
import Derived.LoopIn
import Derived.Test.YtnbgmiiknndleaaGreatRegion
import Derived.Deep.Cut
import Derived.Deep.CutRange
namespace Go.Proofs.YtnbgmiiknndleaaGreat.num
set_option maxRecDepth 20000
set_option linter.unusedVariables false
set_option linter.unusedSimpArgs false

/-- The item numbered k is better than the one numbered i. -/
def btI (t : Tr) (ds : List Dt) (k i : Int) : Bool := match findD ds k, findD ds i with | some x, some y => btD t x y | _, _ => false
theorem btI_of {ds : List Dt} (h : AreP ds) (t : Tr) {x y : Dt} (hx : x ∈ ds) (hy : y ∈ ds) : btI t ds x.1 y.1 = btD t x y := by unfold btI; rw [findD_of h hx, findD_of h hy]
def mergeL (t : Tr) (ds : List Dt) (a b : List Int) : List Int := (a.filter fun i => !b.any fun k => btI t ds k i) ++ (b.filter fun k => !a.any fun i => btI t ds i k)
def Known (ds : List Dt) (a : List Int) : Prop := ∀ i ∈ a, findD ds i ≠ none
/-- What MergeBest answers. -/
def MergeP (nds : List ND) (ds : List Dt) (a b r : List Int) : Prop := (∃ t, IsE nds ∧ AreP ds ∧ Known ds a ∧ Known ds b ∧ Post nds t ∧ SortP (mergeL t ds a b) r) ∨ (¬ (IsE nds ∧ AreP ds ∧ Known ds a ∧ Known ds b) ∧ r = [])
theorem MergeP.one {nds : List ND} {ds : List Dt} {a b r r' : List Int} (h : MergeP nds ds a b r) (h' : MergeP nds ds a b r') : r = r' := by
  rcases h with ⟨t, h1, h2, h3, h4, h5, h6⟩ | ⟨hn, rfl⟩ <;> rcases h' with ⟨t', g1, g2, g3, g4, g5, g6⟩ | ⟨hn', rfl⟩
  · rw [h5.one g5] at h6
    exact h6.one g6 (.refl _)
  · exact absurd ⟨h1, h2, h3, h4⟩ hn'
  · exact absurd ⟨g1, g2, g3, g4⟩ hn
  · rfl
theorem rise_pair {ds : List Dt} (h : AreP ds) : (idsD ds).Pairwise (· < ·) := by
  rw [List.pairwise_iff_getElem]
  intro i j hi hj hij
  unfold idsD at hi hj ⊢
  have hl : j < ds.length := by rw [List.length_map] at hj; exact hj
  have h1 := rise_lt h.2.1 hij hl
  rw [List.getD_eq_getElem?_getD, List.getD_eq_getElem?_getD, List.getElem?_eq_getElem hi, List.getElem?_eq_getElem hj] at h1
  exact h1
theorem rise_sub {ds l : List Dt} (h : AreP ds) (hl : l.Sublist ds) : (idsD l).Pairwise (· ≤ ·) :=
  (List.Pairwise.sublist (List.Sublist.map _ hl) (rise_pair h)).imp fun h => Int.le_of_lt h
theorem sorted_self {l s : List Int} (h : SortP l s) (hl : l.Pairwise (· ≤ ·)) : s = l := sorted_one h.1 hl h.2
theorem SortP.self {l : List Int} (hl : l.Pairwise (· ≤ ·)) : SortP l l := ⟨hl, .refl _⟩
theorem not_best {nds : List ND} {t : Tr} (ht : Post nds t) {l : List Dt} {x y : Dt} (hy : y ∈ l) (hb : btD t y x = true) : ∃ b ∈ bestD t l, btD t b x = true := by
  obtain ⟨b, h1, h2, h3⟩ := best_above ht l _ x y (Nat.le_refl _) hy hb
  exact ⟨b, List.mem_filter.2 ⟨h1, h2⟩, h3⟩
/-- The best of a that none of b's best beats: those of a that nothing of both beats. -/
theorem half_best {nds : List ND} {t : Tr} (ht : Post nds t) (a b : List Dt) : (bestD t a).filter (fun x => !(bestD t b).any fun y => btD t y x) = a.filter (fun x => bestB t a x && bestB t b x) := by
  unfold bestD
  rw [List.filter_filter]
  apply List.filter_congr
  intro x hx
  have e : (!(b.filter (bestB t b)).any fun y => btD t y x) = bestB t b x := by
    cases h : bestB t b x
    · unfold bestB at h
      obtain ⟨y, hy, hb⟩ : ∃ y ∈ b, btD t y x = true := by
        rw [List.all_eq_false] at h
        obtain ⟨y, hy, hb⟩ := h
        exact ⟨y, hy, by simpa using hb⟩
      obtain ⟨z, hz, hzb⟩ := not_best ht hy hb
      have : ((b.filter (bestB t b)).any fun y => btD t y x) = true := List.any_eq_true.2 ⟨z, hz, hzb⟩
      rw [this]; rfl
    · have : ((b.filter (bestB t b)).any fun y => btD t y x) = false := by
        rw [List.any_eq_false]
        intro y hy
        unfold bestB at h
        have := List.all_eq_true.1 h y (List.mem_filter.1 hy).1
        simpa using this
      rw [this]; rfl
  rw [e, Bool.and_comm]
theorem bestB_app (t : Tr) (a b : List Dt) (x : Dt) : bestB t (a ++ b) x = (bestB t a x && bestB t b x) := by unfold bestB; rw [List.all_append]
theorem filt_ids {ds l m : List Dt} (h : AreP ds) (t : Tr) (hl : ∀ x ∈ l, x ∈ ds) (hm : ∀ x ∈ m, x ∈ ds) : (idsD l).filter (fun i => !(idsD m).any fun k => btI t ds k i) = idsD (l.filter fun x => !m.any fun y => btD t y x) := by
  unfold idsD
  rw [List.filter_map]
  congr 1
  apply List.filter_congr
  intro x hx
  simp only [Function.comp]
  congr 1
  rw [List.any_map]
  rw [Bool.eq_iff_iff, List.any_eq_true, List.any_eq_true]
  constructor
  · rintro ⟨y, hy, hb⟩
    exact ⟨y, hy, by rw [← btI_of h t (hm y hy) (hl x hx)]; exact hb⟩
  · rintro ⟨y, hy, hb⟩
    exact ⟨y, hy, by simp only [Function.comp]; rw [btI_of h t (hm y hy) (hl x hx)]; exact hb⟩
theorem merge_best {nds : List ND} {t : Tr} (ht : Post nds t) {ds a b : List Dt} (h : AreP ds) (ha : ∀ x ∈ a, x ∈ ds) (hb : ∀ x ∈ b, x ∈ ds) : mergeL t ds (idsD (bestD t a)) (idsD (bestD t b)) = idsD (bestD t (a ++ b)) := by
  have sa : ∀ x ∈ bestD t a, x ∈ ds := fun x hx => ha x (List.mem_filter.1 hx).1
  have sb : ∀ x ∈ bestD t b, x ∈ ds := fun x hx => hb x (List.mem_filter.1 hx).1
  unfold mergeL
  rw [filt_ids h t sa sb, filt_ids h t sb sa, half_best ht a b, half_best ht b a]
  have e : bestD t (a ++ b) = (a.filter fun x => bestB t a x && bestB t b x) ++ (b.filter fun x => bestB t b x && bestB t a x) := by
    unfold bestD
    rw [List.filter_append]
    congr 1
    · exact List.filter_congr fun x _ => bestB_app t a b x
    · exact List.filter_congr fun x _ => by rw [bestB_app, Bool.and_comm]
  rw [e]
  unfold idsD
  rw [List.map_append]
/-- How many comparisons the halves count. -/
def divN (t : Tr) : Nat → List Dt → Nat
  | 0, _ => 0
  | f + 1, l => if l.length ≤ 1 then 0 else divN t f (l.take (l.length / 2)) + divN t f (l.drop (l.length / 2)) + (bestD t (l.take (l.length / 2))).length * (bestD t (l.drop (l.length / 2))).length
theorem best_short {nds : List ND} {t : Tr} (ht : Post nds t) {l : List Dt} (h : l.length ≤ 1) : bestD t l = l := by
  match l, h with
  | [], _ => rfl
  | [x], _ =>
    unfold bestD bestB
    simp [bt_irr ht]
theorem best_le (t : Tr) (l : List Dt) : (bestD t l).length ≤ l.length := List.length_filter_le _ _
theorem divN_le (t : Tr) : ∀ (f : Nat) (l : List Dt), 2 * divN t f l + l.length ≤ l.length * l.length
  | 0, l => by
    simp only [divN]
    rcases Nat.eq_zero_or_pos l.length with e | e
    · rw [e]; omega
    · have := Nat.mul_le_mul_left l.length e; omega
  | f + 1, l => by
    rw [divN]
    split
    · rcases Nat.eq_zero_or_pos l.length with e | e
      · rw [e]; omega
      · have := Nat.mul_le_mul_left l.length e; omega
    · obtain ⟨p, hp⟩ : ∃ p, l.length / 2 = p := ⟨_, rfl⟩
      rw [hp]
      have h1 := divN_le t f (l.take p)
      have h2 := divN_le t f (l.drop p)
      have h3 := Nat.mul_le_mul (best_le t (l.take p)) (best_le t (l.drop p))
      have e1 : (l.take p).length = p := by rw [List.length_take]; omega
      obtain ⟨q, hq⟩ : ∃ q, (l.drop p).length = q := ⟨_, rfl⟩
      have hl : l.length = p + q := by rw [← hq, List.length_drop]; omega
      rw [e1] at h1 h3
      rw [hq] at h2 h3
      have hsq : (p + q) * (p + q) = p * p + p * q + (p * q + q * q) := by rw [Nat.add_mul, Nat.mul_add, Nat.mul_add, Nat.mul_comm q p]
      rw [hl, hsq]
      omega
/-- What DivideBest answers. -/
def DivP (nds : List ND) (ds : List Dt) (r : List Int × Int) : Prop := AnsP nds ds (fun t => (idsD (bestD t ds), ((divN t ds.length ds : Nat) : Int))) ([], 0) r
end Go.Proofs.YtnbgmiiknndleaaGreat.num
namespace Go.Proofs.YtnbgmiiknndleaaGreat.num
set_option maxRecDepth 20000
open Go.RowKit
set_option linter.unusedVariables false
set_option linter.unusedSimpArgs false

theorem cloneI (w : World) (B : Nat) (A : Option Addr) (n c : Nat) (xs : List Int) (hi : Ints w B A n xs) (hB : B ≤ w.heap.size) (hn : n ≤ 1048576) :
    Calls Tryz.prog 41 #[.slice A n c] w fun e w' => ∃ v, e = .returned v ∧ OwnI w' w.heap.size v xs ∧ Below w.heap.size w w' := by
  have hq : ∀ (w : World) (a : Option Addr) (n c n' c' : Nat), (binOp .eql 23 (.slice a n c) (.slice none n' c')).run Tryz.prog w = .ok (.bool a.isNone) w := fun w a n c n' c' => Lib.run_eql_slice_nil w _ _ a n c n' c' Tryz.underlying23
  have HB1 : Hid (Below B w (w.alloc (.cells #[] 3))) := Lib.hid ((Below.refl B w).alloc hB _)
  have HX := Lib.hid hi
  cases A with
  | none =>
    obtain rfl : xs = [] := by
      obtain ⟨h1, h2⟩ := hi
      rcases Nat.eq_zero_or_pos n with e | e
      · exact List.eq_nil_of_length_eq_zero (by omega)
      · obtain ⟨_, _, h, _⟩ := h2 0 e; cases h
    clear hi HB1
    go_enter Tryz.func41, Tryz.ntmps41
    go_wp2
    go_ret
    exact ⟨_, rfl, ownI_nil _ _, Below.refl _ _⟩
  | some a =>
    clear hi
    obtain ⟨v', w', hr, ho, hg, ha⟩ := run_spreadI (ty := 23) (c := c) (OwnI.empty w w.heap.size (Nat.le_refl _)) (HX.out.below HB1.out) (by simp; omega) (by simp)
    have HO := Lib.hid ho
    have HG := Lib.hid hg
    clear ho hg ha
    go_enter Tryz.func41, Tryz.ntmps41
    go_wp2_with (at_builtin; refine Go.Lib.wpList_append_run_sl _ (by rfl) (.tmp 5) (.tmp 6) 23 (by rfl) _ _ (by rfl) (by rfl) hr ?_)
    clear hr
    go_wp2
    go_ret
    exact ⟨_, rfl, by simpa using HO.out, ((Below.refl _ w).alloc (Nat.le_refl _) _).grown HG.out (by simp) (by intro k hk; simp [Value.ownBlock] at hk; omega)⟩
theorem ownP_shape {w : World} {B : Nat} {v : Value} {l : List (Int × Int)} (h : OwnP w B v l) : ∃ A n c, v = .slice A n c := by
  rcases h.2 with ⟨rfl, _⟩ | ⟨g, cap, cur, rfl, _⟩
  · exact ⟨_, _, _, rfl⟩
  · exact ⟨_, _, _, rfl⟩
theorem OwnI.slen {w : World} {B : Nat} {A : Option Addr} {n c : Nat} {l : List Int} (h : OwnI w B (.slice A n c) l) : n = l.length := by
  rcases h.2 with ⟨e, hl⟩ | ⟨g, cap, cur, e, _⟩ <;> (injection e with e1 e2 e3 <;> omega)
theorem ownP_slen {w : World} {B : Nat} {A : Option Addr} {n c : Nat} {l : List (Int × Int)} (h : OwnP w B (.slice A n c) l) : n = l.length := by
  rcases h.2 with ⟨e, hl⟩ | ⟨g, cap, cur, e, _⟩ <;> (injection e with e1 e2 e3 <;> omega)
theorem OwnG.set2 {α : Type} {f : α → List Value} {s : Nat} (hf : ∀ x, (f x).length = s) {T : TypeId} {w : World} {B g n c k i1 i2 : Nat} {v1 v2 : Value} {l : List α} {x y : α} (h : OwnG T f s w B (.slice (some ⟨g, 0, none⟩) n c) l) (hk : l[k]? = some x) (hy : ∀ j, j < s → (f y)[j]? = if j = i2 then some v2 else if j = i1 then some v1 else (f x)[j]?) (h1 : i1 < s) (h2 : i2 < s) :
    OwnG T f s ((w.setCell ⟨g, k * s + i1, none⟩ v1).setCell ⟨g, k * s + i2, none⟩ v2) B (.slice (some ⟨g, 0, none⟩) n c) (l.set k y) := by
  have hlt : k < l.length := by
    rcases Nat.lt_or_ge k l.length with q | q
    · exact q
    · rw [List.getElem?_eq_none q] at hk; cases hk
  have hs : 0 < s := by omega
  rcases h.row with ⟨e, _⟩ | ⟨g', cap, F, e, hB, hle, hcap, hrow, hF⟩
  · cases e
  · injection e with e1 e2 e3
    injection e1 with e1
    injection e1 with e1
    subst e1 e2 e3
    refine OwnG.of_row hf hB (by simp) hle hcap (World.rowIs.set (World.rowIs.set hrow (k * s + i1) v1) (k * s + i2) v2) fun j hj => ?_
    rw [fm_set hf l k _ hlt j hj]
    have hd : j / s * s + j % s = j := by rw [Nat.mul_comm]; exact Nat.div_add_mod j s
    by_cases e : j / s = k
    · obtain ⟨r, hr, rfl⟩ : ∃ r, r < s ∧ j = k * s + r := ⟨j % s, Nat.mod_lt _ hs, by rw [← e]; exact hd.symm⟩
      have hm : (k * s + r) % s = r := by rw [Nat.mul_comm, Nat.mul_add_mod, Nat.mod_eq_of_lt hr]
      rw [if_pos e, hm, hy r hr]
      have hold := hF _ hj
      rw [fm_at hf l k r x hk hr] at hold
      by_cases q2 : r = i2
      · rw [if_pos q2, if_pos (show k * s + r = k * s + i2 by rw [q2])]
      · have n2 : ¬ (k * s + r = k * s + i2) := by omega
        by_cases q1 : r = i1
        · rw [if_neg q2, if_pos q1, if_neg n2, if_pos (show k * s + r = k * s + i1 by rw [q1])]
        · rw [if_neg q2, if_neg q1, if_neg n2, if_neg (show ¬ (k * s + r = k * s + i1) by omega), hold]
    · rw [if_neg e, hF j hj]
      have hm := Nat.mod_lt j hs
      have ne : ∀ i, i < s → j ≠ k * s + i := fun i hi hji => e (by rw [hji, Nat.mul_comm, Nat.mul_add_div hs, Nat.div_eq_of_lt hi, Nat.add_zero])
      rw [if_neg (ne i2 h2), if_neg (ne i1 h1)]
theorem set_mid {α : Type} {cs ns : List α} {k : Nat} {x y : α} (hl : cs.length = k) (h : ns[k]? = some x) : (cs ++ ns.drop k)[k]? = some x ∧ (cs ++ ns.drop k).set k y = (cs ++ [y]) ++ ns.drop (k + 1) := by
  have hlt : k < ns.length := by
    rcases Nat.lt_or_ge k ns.length with g | g
    · exact g
    · rw [List.getElem?_eq_none g] at h; cases h
  have hd : ns.drop k = x :: ns.drop (k + 1) := by
    rw [List.drop_eq_getElem_cons hlt]
    rw [List.getElem?_eq_getElem hlt] at h
    rw [Option.some.inj h]
  refine ⟨by rw [List.getElem?_append_right (by omega), hl, hd]; simp, ?_⟩
  rw [hd, List.set_append_right _ _ (by omega), hl, Nat.sub_self, List.set_cons_zero, List.append_assoc, List.singleton_append]

/-- As far as k, the elements hold copies of their own. -/
structure CopyInv (w w1 : World) (g n cap : Nat) (ns : List Nd) (k : Nat) (cs : List Nd) (wr : World) : Prop where
  len : cs.length = k
  own : OwnG 82 nodeCells 6 wr w.heap.size (.slice (some ⟨g, 0, none⟩) n cap) (cs ++ ns.drop k)
  dat : datN cs = datN (ns.take k)
  sh : ShortN cs
  x : ∀ (i : Nat) (x : Nd), cs[i]? = some x → (Lit.int .i64 x.op).wf = true ∧ WiO wr w1.heap.size x.t
  d : ∀ (i j : Nat) (x y : Nd) (b : Nat), i < j → cs[i]? = some x → cs[j]? = some y → x.t.has b → ¬ y.t.has b
  bel : Below w.heap.size w wr
  s1 : w1.heap.size ≤ wr.heap.size
set_option maxRecDepth 20000 in
theorem CopyInv.next {w w1 wr w2 w3 : World} {g n cap k : Nat} {ns cs : List Nd} {x : Nd} {LA' PA' : Option Addr} {Ln' Lc' Pn' Pc' : Nat} (h : CopyInv w w1 g n cap ns k cs wr) (hG : w.heap.size ≤ g ∧ g < w1.heap.size) (hat : ns[k]? = some x) (hls : x.t.ls.length ≤ 1048576 ∧ x.t.ps.length ≤ 1048576)
    (hwf : (Lit.int .i64 x.op).wf = true ∧ (Lit.int .i64 x.t.kind).wf = true ∧ (Lit.int .i64 x.t.field).wf = true ∧ (Lit.int .i64 x.t.value).wf = true)
    (hoa : OwnI w2 wr.heap.size (.slice LA' Ln' Lc') x.t.ls) (hb2 : Below wr.heap.size wr w2) (hob : OwnP w3 w2.heap.size (.slice PA' Pn' Pc') x.t.ps) (hb23 : Below w2.heap.size w2 w3) :
    CopyInv w w1 g n cap ns (k + 1) (cs ++ [⟨x.op, x.t.kind, x.t.field, x.t.value, LA', Ln', Lc', x.t.ls, PA', Pn', Pc', x.t.ps⟩]) ((w3.setCell ⟨g, k * 6 + 4, none⟩ (.slice LA' Ln' Lc')).setCell ⟨g, k * 6 + 5, none⟩ (.slice PA' Pn' Pc')) := by
  obtain ⟨y, hy⟩ : ∃ y : Nd, y = ⟨x.op, x.t.kind, x.t.field, x.t.value, LA', Ln', Lc', x.t.ls, PA', Pn', Pc', x.t.ps⟩ := ⟨_, rfl⟩
  rw [← hy]
  have hb3 : Below wr.heap.size wr w3 := below_on hb2 hb23
  have hgw : g < wr.heap.size := Nat.lt_of_lt_of_le hG.2 h.s1
  obtain ⟨hm1, hm2⟩ := set_mid (y := y) h.len hat
  have hoth : ∀ b, b ≠ g → ((w3.setCell ⟨g, k * 6 + 4, none⟩ (.slice LA' Ln' Lc')).setCell ⟨g, k * 6 + 5, none⟩ (.slice PA' Pn' Pc')).heap[b]? = w3.heap[b]? := fun b hb => by
    rw [heap_setCell_other _ _ _ _ (by simpa using hb), heap_setCell_other _ _ _ _ (by simpa using hb)]
  have hs1 := h.s1
  have hwy : WiO w3 wr.heap.size y.t := by
    rw [hy]
    refine ⟨hwf.2.1, hwf.2.2.1, hwf.2.2.2, ownI_blocks hoa fun b hb => hb23.block b (ownI_tops hoa b hb), ownP_lowE hob hb2.size, fun b h1 h2 => ?_⟩
    have q1 := ownI_tops hoa b h1
    have q2 := hob.lows b h2
    omega
  refine ⟨by rw [List.length_append, h.len]; rfl, ?_, ?_, ?_, ?_, ?_, ?_, ?_⟩
  · have h3 : OwnG 82 nodeCells 6 w3 w.heap.size (.slice (some ⟨g, 0, none⟩) n cap) (cs ++ ns.drop k) := h.own.blocks fun b hb => by
      have e : g = b := Option.some.inj hb
      rw [← e]; exact hb3.block g hgw
    have h4 := OwnG.set2 (k := k) (i1 := 4) (i2 := 5) (v1 := .slice LA' Ln' Lc') (v2 := .slice PA' Pn' Pc') (y := y) nodeCells_len h3 hm1 (fun j hj => by
      rw [hy]
      have hj' : j = 0 ∨ j = 1 ∨ j = 2 ∨ j = 3 ∨ j = 4 ∨ j = 5 := by omega
      rcases hj' with rfl | rfl | rfl | rfl | rfl | rfl <;> simp [nodeCells]) (by decide) (by decide)
    rw [← hm2]
    exact h4
  · rw [datN_at hat, ← h.dat]
    unfold datN
    rw [List.map_append, List.map_singleton, hy]
    rfl
  · intro u hu
    rcases List.mem_append.1 hu with hu | hu
    · exact h.sh u hu
    · rw [List.mem_singleton.1 hu, hy]
      have e1 := OwnI.slen hoa
      have e2 := ownP_slen hob
      exact ⟨by show Ln' ≤ _; rw [e1]; exact hls.1, by show Pn' ≤ _; rw [e2]; exact hls.2⟩
  · intro i u hu
    rcases get_snoc h.len hu with ⟨_, hu⟩ | ⟨_, rfl⟩
    · obtain ⟨e1, e2⟩ := h.x i u hu
      exact ⟨e1, (e2.below (hb3)).blocks fun b hb => hoth b (by have := (e2.has_in hb).1; omega)⟩
    · exact ⟨by rw [hy]; exact hwf.1, (hwy.blocks fun b hb => hoth b (by have := (hwy.has_in hb).1; omega)).low hs1⟩
  · intro i j u z b hij hu hz hb hb'
    rcases get_snoc h.len hz with ⟨hj, hz⟩ | ⟨_, rfl⟩
    · rcases get_snoc h.len hu with ⟨_, hu⟩ | ⟨e, _⟩
      · exact h.d i j u z b hij hu hz hb hb'
      · omega
    · rcases get_snoc h.len hu with ⟨_, hu⟩ | ⟨e, _⟩
      · have g1 := ((h.x i u hu).2.has_in hb).2
        have g2 := (hwy.has_in hb').1
        omega
      · omega
  · have hgl := hG.1
    exact ((below_on h.bel hb3).setCell (by show w.heap.size ≤ g; omega) _).setCell (by show w.heap.size ≤ g; omega) _
  · have := hb3.size
    simp
    omega
theorem CopyInv.done {w w1 wr : World} {g n cap k : Nat} {ns cs : List Nd} (h : CopyInv w w1 g n cap ns k cs wr) (hG : w.heap.size ≤ g ∧ g < w1.heap.size) (hk : ns.length = k) : datN cs = datN ns ∧ OwnN wr w.heap.size (.slice (some ⟨g, 0, none⟩) n cap) cs := by
  have hd : ns.drop k = [] := List.drop_eq_nil_of_le (by rw [hk]; exact Nat.le_refl _)
  have ht : ns.take k = ns := List.take_of_length_le (by rw [hk]; exact Nat.le_refl _)
  have h1 := h.own
  have h2 := h.dat
  rw [hd, List.append_nil] at h1
  rw [ht] at h2
  refine ⟨h2, h1, fun i x hi => ⟨(h.x i x hi).1, (h.x i x hi).2.low (Nat.le_of_lt (Nat.lt_of_le_of_lt hG.1 hG.2))⟩, fun i x b hi hb e => ?_, h.d⟩
  have h1 := ((h.x i x hi).2.has_in hb).1
  have h2 := hG.2
  have h3 : g = b := Option.some.inj e
  omega
end Go.Proofs.YtnbgmiiknndleaaGreat.num
namespace Go.Proofs.YtnbgmiiknndleaaGreat.num
set_option maxRecDepth 20000
open Go.RowKit
set_option linter.unusedVariables false
set_option linter.unusedSimpArgs false

/-- Where a walk is to stop: it goes on behind 'intro _'. -/
theorem two_setB {w : World} {g : Nat} {T : TypeId} {u0 u1 v0 v1 : Value} (h : w.heap[g]? = some (.cells #[u0, u1] T (0, 0))) : ((w.setCell ⟨g, 0, none⟩ v0).setCell ⟨g, 1, none⟩ v1).heap[g]? = some (.cells #[v0, v1] T (0, 0)) := by
  have h := heap_setCell_same _ g 1 _ _ v1 (heap_setCell_same w g 0 _ _ v0 h)
  simpa using h
set_option maxRecDepth 20000 in
set_option maxHeartbeats 1600000 in
theorem sSort (w : World) (B : Nat) (A : Option Addr) (n c : Nat) (xs : List Int) (hi : Ints w B A n xs) (hB : B ≤ w.heap.size) (hn : n ≤ 2097152) :
    Calls Tryz.prog 18 #[.slice A n c] w fun e w' => (∃ v s, e = .returned v ∧ SortP xs s ∧ OwnI w' w.heap.size v s) ∧ Below w.heap.size w w' := by
  have HX := Lib.hid hi
  clear hi
  go_enter Tryz.func18, Tryz.ntmps18
  go_wp2
  go_loopw [3, 4] (fun v i wr => ∃ (k g cap : Nat) (s : List Int), k ≤ n ∧ i = .int .i64 k ∧ v = .slice (some ⟨g, 0, none⟩) k cap ∧ k ≤ cap ∧ cap ≤ maxLen ∧ SortP (xs.take k) s ∧ OwnI wr w.heap.size v s ∧ Below w.heap.size w wr) (fun _ i _ => n - (intOf i).toNat)
  case atStart => exact ⟨0, _, 0, [], Nat.zero_le _, rfl, rfl, Nat.le_refl _, by decide, ⟨List.Pairwise.nil, by simp⟩, OwnI.empty w _ (Nat.le_refl _), (Below.refl _ _).alloc (Nat.le_refl _) _⟩
  case round =>
    obtain ⟨k, g, cap, s, hk, rfl, rfl, hkc, hcm, hs, hown, hbel⟩ := hrel
    have HS := Lib.hid hs
    have HO := Lib.hid hown
    have HB := Lib.hid hbel
    have HL : Hid (s.length = k) := Lib.hid (by rw [hs.len, List.length_take, HX.out.1]; omega)
    have hcm' : (cap : Int) ≤ 9223372036854775807 := by unfold maxLen at hcm; omega
    clear hs hown
    by_cases hlt : k < n
    · obtain ⟨b, off, x, rfl, hb, hat, hc⟩ := HX.out.at k hlt
      have hbw : b < w.heap.size := Nat.lt_of_lt_of_le hb hB
      have HC := Lib.hid hc
      have HT := Lib.hid hat
      have hlt' : (k : Int) < (n : Int) := by omega
      have hk0 : (0 : Int) ≤ (k : Int) := by omega
      clear hc hat hbel
      go_wp2
      go_loopw [5] (fun jv wr2 => ∃ j : Nat, j ≤ k ∧ jv = .int .i64 j ∧ (∀ y ∈ s.drop j, x ≤ y) ∧ OwnI wr2 w.heap.size (.slice (some ⟨g, 0, none⟩) k cap) s ∧ Below w.heap.size w wr2) (fun jv _ => (intOf jv).toNat)
      case atStart => exact ⟨k, Nat.le_refl _, rfl, (by rw [List.drop_eq_nil_of_le (by rw [HL.out]; exact Nat.le_refl _)]; exact fun y hy => by cases hy), HO.out, HB.out⟩
      case round =>
        obtain ⟨j, hj, rfl, hge, hown, hbel⟩ := hrel
        have HG := Lib.hid hge
        have HO2 := Lib.hid hown
        have HB2 := Lib.hid hbel
        clear hge hown
        have hwf : wr.cell? ⟨b, off + k, none⟩ = some (.int .i64 x) := (hbel.cell (p := ⟨b, off + k, none⟩) hbw).trans HC.out
        have hs1 : (j : Int) ≤ (cap : Int) := by omega
        have hs2 : (j : Int) ≤ (k : Int) := by omega
        have hs3 : (0 : Int) ≤ (j : Int) := by omega
        have hs4 : (k : Int) ≤ (cap : Int) := by omega
        by_cases hj0 : j = 0
        · subst hj0
          have HLo : Hid (∀ y ∈ s.take 0, y ≤ x) := Lib.hid (fun y hy => by cases hy)
          clear hbel
          go_wp2
          go_quiet (fail)
          have HW : Hid (Below wr.heap.size wr (wr.drewN nq)) := Lib.hid (below_drewN (Below.refl _ _) nq)
          have hsz : (wr.drewN nq).heap.size = wr.heap.size := rfl
          obtain ⟨v1, w1, hr1, ho1, hg1, -⟩ := run_spreadI (ty := 23) (c := cap) (OwnI.empty (wr.drewN nq) wr.heap.size (Nat.le_refl _)) (((ownI_at HO2.out).takeI hj).below (HW.out.alloc (Nat.le_refl _) (.cells #[] 3))) (by simp <;> omega) (by simp [hsz])
          have HO1 : Hid (OwnI w1 wr.heap.size v1 (s.take 0)) := Lib.hid (by simpa using ho1)
          have HB1 : Hid (Below wr.heap.size wr w1) := Lib.hid ((HW.out.alloc (Nat.le_refl _) _).grown hg1 (by simp [hsz]) (by intro k hk; simp [Value.ownBlock] at hk; omega))
          have hx1 : w1.cell? ⟨b, off + k, none⟩ = some (.int .i64 x) := ((below_on HB2.out HB1.out).cell (p := ⟨b, off + k, none⟩) hbw).trans HC.out
          have HLn : Hid (((s.take 0).length + [x].length) * 8 ≤ 140737488355328) := Lib.hid (by
            rw [List.length_take, HL.out, List.length_singleton]
            omega)
          clear ho1 hg1 hwf
          go_wp2_with (at_builtin; refine Go.Lib.wpList_append_run_sl _ (by rfl) (.tmp 32) (.tmp 35) 23 (by rfl) _ _ (by rfl) (by rfl) hr1 (stop_at ?_))
          intro _
          clear hr1
          go_wp2_with (at_builtin; refine wp_appI w1 (by rfl) (.tmp 37) (.tmp 42) (by rfl) wr.heap.size _ _ (by rfl) HO1.out _ [x] (by rfl) 1 1 rfl (by rfl) HLn.out HB1.out.size ?_)
          intro v2 w2 ho2 hb2
          have HO3 := Lib.hid ho2
          have HBw2 := Lib.hid (HB1.out.trans hb2)
          clear ho2 hb2 hx1
          have HI2 : Hid (Ints w2 wr.heap.size (some ⟨g, 0, none⟩) k s) := Lib.hid ((ownI_at HO2.out).below HBw2.out)
          have HS2 : Hid (SortP (xs.take (k + 1)) (s.take 0 ++ [x] ++ s.drop 0)) := Lib.hid (by
            rw [take_at HT.out]
            exact sort_insert HS.out (List.take_append_drop 0 s).symm HLo.out HG.out)
          have HLz : Hid ((s.take 0 ++ [x] ++ s.drop 0).length = k + 1) := Lib.hid (by
            have h := HL.out
            simp
            omega)
          by_cases hcj : cap = 0
          · subst hcj
            obtain rfl : k = 0 := by omega
            obtain ⟨v3, w3, hr3, ho3, hg3, -⟩ := run_spreadI (ty := 23) (c := 0) (A := some ⟨g, 0, none⟩) HO3.out (HI2.out.takeI (Nat.zero_le _)) (by have h := HL.out; simp <;> omega) HBw2.out.size
            have HO4 : Hid (OwnI w3 wr.heap.size v3 (s.take 0 ++ [x] ++ s.drop 0)) := Lib.hid (by have h : s.drop 0 = [] := List.drop_eq_nil_of_le (by rw [HL.out]; exact Nat.le_refl _); rw [h]; simpa using ho3)
            have HB3 := Lib.hid (HBw2.out.grown hg3 HBw2.out.size (fun k hk => ownI_lows HO3.out k hk))
            clear ho3 hg3
            go_wp2_with (at_builtin; refine Go.Lib.wpList_append_run_sl _ (by rfl) (.tmp 44) (.tmp 47) 23 (by rfl) _ _ (by rfl) (by rfl) hr3 ?_)
            clear hr3
            go_wp2
            go_roundw
            case rel =>
              rcases ownI_row HO4.out with ⟨-, e⟩ | ⟨g', cap', f, e, hg', h1, h2, -, -⟩
              · exact absurd e (by simp)
              · exact ⟨0 + 1, g', cap', _, by omega, by go_num, by rw [e, HLz.out], by rw [← HLz.out]; exact h1, h2, HS2.out, ownI_lower HO4.out HB2.out.size, below_on HB2.out HB3.out⟩
            case measure => simp [intOf] <;> omega
          · have hcj1 : 0 < cap := by omega
            obtain ⟨v3, w3, hr3, ho3, hg3, -⟩ := run_spreadI (ty := 23) (c := cap - 0) HO3.out (HI2.out.dropI hj) (by have h := HL.out; simp <;> omega) HBw2.out.size
            have HO4 : Hid (OwnI w3 wr.heap.size v3 (s.take 0 ++ [x] ++ s.drop 0)) := Lib.hid ho3
            have HB3 := Lib.hid (HBw2.out.grown hg3 HBw2.out.size (fun k hk => ownI_lows HO3.out k hk))
            clear ho3 hg3
            rw [Nat.zero_add] at hr3
            go_wp2_with (at_builtin; refine Go.Lib.wpList_append_run_sl _ (by rfl) (.tmp 44) (.tmp 47) 23 (by rfl) _ _ (by rfl) (by rfl) hr3 ?_)
            clear hr3
            go_wp2
            go_roundw
            case rel =>
              rcases ownI_row HO4.out with ⟨-, e⟩ | ⟨g', cap', f, e, hg', h1, h2, -, -⟩
              · exact absurd e (by simp)
              · exact ⟨k + 1, g', cap', _, by omega, by go_num, by rw [e, HLz.out], by rw [← HLz.out]; exact h1, h2, HS2.out, ownI_lower HO4.out HB2.out.size, below_on HB2.out HB3.out⟩
            case measure => simp [intOf] <;> omega
        · obtain ⟨i, rfl⟩ : ∃ i, j = i + 1 := ⟨j - 1, by omega⟩
          obtain ⟨-, -, -, g', e, -, hgl, hcell⟩ := ownI_cells HO2.out (by omega)
          cases e
          obtain ⟨y, hy⟩ : ∃ y, s[i]? = some y := ⟨_, List.getElem?_eq_getElem (by rw [HL.out]; omega)⟩
          have hyc := (hcell i y hy).1
          have HY := Lib.hid hy
          have hi0 : (0 : Int) ≤ (i : Int) := by omega
          have hi1 : (i : Int) < (k : Int) := by omega
          have hw1 : IntKind.i64.wrap (((i + 1 : Nat) : Int) - 1) = (i : Int) := by rw [show ((i + 1 : Nat) : Int) - 1 = (i : Int) by omega]; exact IntWalk.i64_in _ ⟨by omega, by omega⟩
          clear hcell hy hbel
          by_cases hxy : x < y
          · have hd : decide (y > x) = true := by simpa using hxy
            have HXY := Lib.hid hxy
            clear hxy
            go_wp2
            go_quiet (fail)
            go_wp2
            go_roundw
            case rel => exact ⟨i, by omega, rfl, by
              have e : s.drop i = y :: s.drop (i + 1) := by exact List.drop_eq_getElem?_toList_append ▸ (by rw [HY.out]; rfl)
              rw [e]
              intro z hz
              rcases List.mem_cons.1 hz with rfl | hz
              · have h := HXY.out; omega
              · exact HG.out z hz, ownI_below HO2.out (below_drewN (Below.refl _ _) _), below_drewN HB2.out _⟩
            case measure => simp [intOf] <;> omega
          · have hd : decide (y > x) = false := by simpa using hxy
            have HLo : Hid (∀ y ∈ s.take (i + 1), y ≤ x) := Lib.hid (by exact sorted_take HS.out.1 HY.out (by omega))
            clear hxy
            go_wp2
            go_quiet (fail)
            clear hd hyc hw1
            have HW : Hid (Below wr.heap.size wr (wr.drewN nq)) := Lib.hid (below_drewN (Below.refl _ _) nq)
            have hsz : (wr.drewN nq).heap.size = wr.heap.size := rfl
            obtain ⟨v1, w1, hr1, ho1, hg1, -⟩ := run_spreadI (ty := 23) (c := cap) (OwnI.empty (wr.drewN nq) wr.heap.size (Nat.le_refl _)) (((ownI_at HO2.out).takeI hj).below (HW.out.alloc (Nat.le_refl _) (.cells #[] 3))) (by simp <;> omega) (by simp [hsz])
            have HO1 : Hid (OwnI w1 wr.heap.size v1 (s.take (i + 1))) := Lib.hid (by simpa using ho1)
            have HB1 : Hid (Below wr.heap.size wr w1) := Lib.hid ((HW.out.alloc (Nat.le_refl _) _).grown hg1 (by simp [hsz]) (by intro k hk; simp [Value.ownBlock] at hk; omega))
            have hx1 : w1.cell? ⟨b, off + k, none⟩ = some (.int .i64 x) := ((below_on HB2.out HB1.out).cell (p := ⟨b, off + k, none⟩) hbw).trans HC.out
            have HLn : Hid (((s.take (i + 1)).length + [x].length) * 8 ≤ 140737488355328) := Lib.hid (by
              rw [List.length_take, HL.out, List.length_singleton]
              omega)
            clear ho1 hg1 hwf
            go_wp2_with (at_builtin; refine Go.Lib.wpList_append_run_sl _ (by rfl) (.tmp 32) (.tmp 35) 23 (by rfl) _ _ (by rfl) (by rfl) hr1 (stop_at ?_))
            intro _
            clear hr1
            go_wp2_with (at_builtin; refine wp_appI w1 (by rfl) (.tmp 37) (.tmp 42) (by rfl) wr.heap.size _ _ (by rfl) HO1.out _ [x] (by rfl) 1 1 rfl (by rfl) HLn.out HB1.out.size ?_)
            intro v2 w2 ho2 hb2
            have HO3 := Lib.hid ho2
            have HBw2 := Lib.hid (HB1.out.trans hb2)
            clear ho2 hb2 hx1
            have HI2 : Hid (Ints w2 wr.heap.size (some ⟨g, 0, none⟩) k s) := Lib.hid ((ownI_at HO2.out).below HBw2.out)
            have HS2 : Hid (SortP (xs.take (k + 1)) (s.take (i + 1) ++ [x] ++ s.drop (i + 1))) := Lib.hid (by
              rw [take_at HT.out]
              exact sort_insert HS.out (List.take_append_drop (i + 1) s).symm HLo.out HG.out)
            have HLz : Hid ((s.take (i + 1) ++ [x] ++ s.drop (i + 1)).length = k + 1) := Lib.hid (by
              have h := HL.out
              simp
              omega)
            by_cases hcj : cap = (i + 1)
            · subst hcj
              obtain rfl : k = (i + 1) := by omega
              obtain ⟨v3, w3, hr3, ho3, hg3, -⟩ := run_spreadI (ty := 23) (c := 0) (A := some ⟨g, 0, none⟩) HO3.out (HI2.out.takeI (Nat.zero_le _)) (by have h := HL.out; simp <;> omega) HBw2.out.size
              have HO4 : Hid (OwnI w3 wr.heap.size v3 (s.take (i + 1) ++ [x] ++ s.drop (i + 1))) := Lib.hid (by have h : s.drop (i + 1) = [] := List.drop_eq_nil_of_le (by rw [HL.out]; exact Nat.le_refl _); rw [h]; simpa using ho3)
              have HB3 := Lib.hid (HBw2.out.grown hg3 HBw2.out.size (fun k hk => ownI_lows HO3.out k hk))
              clear ho3 hg3
              go_wp2_with (at_builtin; refine Go.Lib.wpList_append_run_sl _ (by rfl) (.tmp 44) (.tmp 47) 23 (by rfl) _ _ (by rfl) (by rfl) hr3 ?_)
              clear hr3
              go_wp2
              go_roundw
              case rel =>
                rcases ownI_row HO4.out with ⟨-, e⟩ | ⟨g', cap', f, e, hg', h1, h2, -, -⟩
                · exact absurd e (by simp)
                · exact ⟨(i + 1) + 1, g', cap', _, by omega, by go_num, by rw [e, HLz.out], by rw [← HLz.out]; exact h1, h2, HS2.out, ownI_lower HO4.out HB2.out.size, below_on HB2.out HB3.out⟩
              case measure => simp [intOf] <;> omega
            · have hcj1 : (i + 1) < cap := by omega
              obtain ⟨v3, w3, hr3, ho3, hg3, -⟩ := run_spreadI (ty := 23) (c := cap - (i + 1)) HO3.out (HI2.out.dropI hj) (by have h := HL.out; simp <;> omega) HBw2.out.size
              have HO4 : Hid (OwnI w3 wr.heap.size v3 (s.take (i + 1) ++ [x] ++ s.drop (i + 1))) := Lib.hid ho3
              have HB3 := Lib.hid (HBw2.out.grown hg3 HBw2.out.size (fun k hk => ownI_lows HO3.out k hk))
              clear ho3 hg3
              rw [Nat.zero_add] at hr3
              go_wp2_with (at_builtin; refine Go.Lib.wpList_append_run_sl _ (by rfl) (.tmp 44) (.tmp 47) 23 (by rfl) _ _ (by rfl) (by rfl) hr3 ?_)
              clear hr3
              go_wp2
              go_roundw
              case rel =>
                rcases ownI_row HO4.out with ⟨-, e⟩ | ⟨g', cap', f, e, hg', h1, h2, -, -⟩
                · exact absurd e (by simp)
                · exact ⟨k + 1, g', cap', _, by omega, by go_num, by rw [e, HLz.out], by rw [← HLz.out]; exact h1, h2, HS2.out, ownI_lower HO4.out HB2.out.size, below_on HB2.out HB3.out⟩
              case measure => simp [intOf] <;> omega
    · obtain rfl : k = n := by omega
      have HS' : Hid (SortP xs s) := Lib.hid (by have h := HS.out; rwa [take_all HX.out.1] at h)
      clear hbel
      go_wp2
      go_ret
      exact ⟨⟨_, _, rfl, HS'.out, HO.out⟩, HB.out⟩
end Go.Proofs.YtnbgmiiknndleaaGreat.num
namespace Go.Proofs.YtnbgmiiknndleaaGreat.num
set_option maxRecDepth 20000
open Go.RowKit
set_option linter.unusedVariables false
set_option linter.unusedSimpArgs false

/-- The cells of an item; of a bool. -/
def itCs (t : It) : List Value := [.int .i64 t.id, .slice t.A t.n t.c]
theorem itCs_len (t : It) : (itCs t).length = 2 := rfl
theorem itCs_one (t : It) : ∀ u ∈ itCs t, u.oneCell' = true := by
  intro u hu
  simp only [itCs, List.mem_cons, List.not_mem_nil, or_false] at hu
  rcases hu with rfl | rfl <;> rfl
def boC (b : Bool) : List Value := [.bool b]
theorem boC_len (b : Bool) : (boC b).length = 1 := rfl
theorem boC_one (b : Bool) : ∀ u ∈ boC b, u.oneCell' = true := by
  intro u hu
  simp only [boC, List.mem_singleton] at hu
  subst hu; rfl
theorem info_boolB : (Tryz.prog.info? 4).map (fun i => (i.zero, i.size, i.bytes)) = some (some (.bool false), 1, 1) := by kernel_rfl
abbrev OwnTs (w : World) (B : Nat) (v : Value) (l : List It) : Prop := OwnG 43 itCs 2 w B v l
abbrev OwnBs (w : World) (B : Nat) (v : Value) (l : List Bool) : Prop := OwnG 4 boC 1 w B v l
/-- Two slices lie in different blocks. -/
def Apart (u v : Value) : Prop := ∀ b, u.ownBlock = some b → v.ownBlock ≠ some b
theorem Apart.symm {u v : Value} (h : Apart u v) : Apart v u := fun b h1 h2 => h b h2 h1
/-- What was made earlier, and a block that is laid later. -/
theorem Apart.new {u v : Value} {N : Nat} (hu : ∀ k, u.ownBlock = some k → k < N) (hv : v.ownBlock = some N) : Apart u v := fun b h1 h2 => by
  have := hu b h1
  rw [hv] at h2
  have := Option.some.inj h2
  omega
/-- v grew to v': u stays apart. -/
theorem Apart.grow {u v v' : Value} {w : World} {N : Nat} (h : Apart u v) (hu : ∀ k, u.ownBlock = some k → k < w.heap.size) (hat : v'.ownBlock = v.ownBlock ∨ v'.ownBlock = some (w.heap.size + N)) : Apart u v' := fun b h1 h2 => by
  rcases hat with e | e
  · exact h b h1 (e ▸ h2)
  · rw [e] at h2
    have := Option.some.inj h2
    have := hu b h1
    omega
/-- v grew: what u holds is as it was. -/
theorem OwnG.apart {α : Type} {f : α → List Value} {s : Nat} {T : TypeId} {w w' : World} {B : Nat} {u v : Value} {l : List α} (h : OwnG T f s w B u l) (ha : Apart u v) (hg : w.grownBy w' v.ownBlock) : OwnG T f s w' B u l :=
  h.blocks fun k hk => hg.block k (h.tops k hk) fun e => ha k hk e.symm
theorem wp_appT {ops : Array Oper} {rest : List Oper} {o : Oper} {a : Act} {Q : Exit → Act → World → Prop} (w : World) (hgd : o.guard = none) (sl x : Operand)
    (ho : o.op = .call { callee := .builtin .append, args := #[sl, x], argTypes := #[27, 27] })
    (B : Nat) (v : Value) (l : List It) (hs : a.eval sl = v) (hown : OwnTs w B v l) (t : It) (cs : Array Value) (hcs : cs = #[.int .i64 t.id, .slice t.A t.n t.c]) (c : Nat)
    (hx : a.eval x = .slice (some ⟨w.heap.size, 0, none⟩) 1 c) (hlen : l.length ≤ 1048576) (hB : B ≤ w.heap.size)
    (h : ∀ v' w', OwnTs w' B v' (l ++ [t]) → w.grownBy w' v.ownBlock → (v'.ownBlock = v.ownBlock ∨ v'.ownBlock = some (w.heap.size + 1)) → Below B w w' → wpList Tryz.prog ops Q rest (a.put o.dst v') w') :
    wpList Tryz.prog ops Q (o :: rest) a (w.alloc (.cells cs 43)) :=
  wp_appG itCs_len itCs_one Tryz.underlying27 info_item rfl (by decide) w hgd sl x ho B v l hs hown cs t (by rw [hcs]; rfl) c w.heap.size rfl hx (by omega) (by decide) hB
    fun v' w' h1 h2 h3 => h v' w' h1 h2 h3 ((Below.refl B w).grown h2 hB (fun k hk => hown.lows k hk))
/-- A slice of items of one's own, read: the k-th one's cells. -/
theorem it_at {w : World} {B : Nat} {A : Option Addr} {n : Nat} {l : List It} (h : ReadG itCs 2 w B A n l) {k : Nat} (hk : k < n) :
    ∃ (b off : Nat) (x : It), A = some ⟨b, off, none⟩ ∧ b < B ∧ l[k]? = some x ∧ w.cell? ⟨b, off + k * 2, none⟩ = some (.int .i64 x.id) ∧ w.cell? ⟨b, off + k * 2 + 1, none⟩ = some (.slice x.A x.n x.c) := by
  obtain ⟨x, hx⟩ := h.get hk
  obtain ⟨b, off, hA, hb, hc⟩ := h.at' k x hx
  exact ⟨b, off, x, hA, hb, hx, hc 0 _ rfl, hc 1 _ rfl⟩
theorem bo_at {w : World} {B : Nat} {A : Option Addr} {n : Nat} {l : List Bool} (h : ReadG boC 1 w B A n l) {k : Nat} (hk : k < n) :
    ∃ (b off : Nat) (x : Bool), A = some ⟨b, off, none⟩ ∧ b < B ∧ l[k]? = some x ∧ w.cell? ⟨b, off + k, none⟩ = some (.bool x) := by
  obtain ⟨x, hx⟩ := h.get hk
  obtain ⟨b, off, hA, hb, hc⟩ := h.at' k x hx
  have h0 := hc 0 _ rfl
  rw [Nat.mul_one] at h0
  exact ⟨b, off, x, hA, hb, hx, h0⟩
/-- Items that came in are read as such cells. -/
theorem Items.readT {w : World} {B : Nat} {A : Option Addr} {n : Nat} {its : List It} (h : Items w B A n its) : ReadG itCs 2 w B A n its := by
  refine ⟨h.1, fun k x hk => ?_⟩
  have hlt := (List.getElem?_eq_some_iff.1 hk).1
  obtain ⟨b, off, y, hA, hb, hy, d0, d1, -⟩ := h.at k (by rw [← h.1]; exact hlt)
  obtain rfl : x = y := Option.some.inj (hk.symm.trans hy)
  refine ⟨b, off, hA, hb, fun j v hj => ?_⟩
  match j, hj with
  | 0, hj => obtain rfl := Option.some.inj hj; exact d0
  | 1, hj => obtain rfl := Option.some.inj hj; exact d1
  | j + 2, hj => simp [itCs] at hj
end Go.Proofs.YtnbgmiiknndleaaGreat.num
namespace Go.Proofs.YtnbgmiiknndleaaGreat.num
set_option maxRecDepth 20000
open Go.RowKit Go.Maps
set_option linter.unusedVariables false

set_option maxRecDepth 20000 in
theorem sIsF (w : World) (B : Nat) (A : Option Addr) (n c : Nat) (xs : List Int) (hi : Ints w B A n xs) (hn : n ≤ 1048576) (b : Bool) (hb : b = true ↔ AscP InF xs) :
    Calls Tryz.prog 16 #[.slice A n c] w fun e w' => e = .returned (.bool b) ∧ Below w.heap.size w w' := by
  have HX := Lib.hid hi
  have HB := Lib.hid hb
  clear hi hb
  have hno : ¬ UpP InF xs → b = false := fun h => by
    cases b
    · rfl
    · exact absurd (HB.out.1 rfl).2 h
  have HNo := Lib.hid hno
  clear hno
  go_enter Tryz.func16, Tryz.ntmps16
  go_wp2
  go_loopw [3] (fun i wr => ∃ k : Nat, k ≤ n ∧ i = .int .i64 k ∧ UpP InF (xs.take k) ∧ ∃ m, wr = w.drewN m) (fun i _ => n - (intOf i).toNat)
  case atStart => exact ⟨0, Nat.zero_le _, rfl, by rw [List.take_zero]; exact UpP.nil _, 0, rfl⟩
  case round =>
    obtain ⟨k, hk, rfl, hasc, m, rfl⟩ := hrel
    have HA := Lib.hid hasc
    clear hasc
    by_cases hlt : k < n
    · obtain ⟨b1, off, x, hA1, hb1, hat, hc⟩ := HX.out.at k hlt
      have HT := Lib.hid hat
      have hlt' : (k : Int) < (n : Int) := by omega
      obtain ⟨q, hq⟩ := bool_of (0 ≤ x ∧ x ≤ 2)
      have HQ := Lib.hid hq
      clear hat hq
      cases q
      · obtain rfl : b = false := HNo.out fun h => by have := HQ.out.2 (h.1 x (List.mem_of_getElem? HT.out)); cases this
        subst hA1
        go_wp2
        go_quiet ((go_at_call 27; refine in_quiet (in_same x 0 2 false HQ.out _)))
        go_wp2
        go_ret
        exact ⟨rfl, by rw [World.drewN_drewN]; exact below_drewN (Below.refl _ _) _⟩
      · have HD := Lib.hid (HQ.out.1 rfl)
        rcases Nat.eq_zero_or_pos k with h0 | h0
        · have HK := Lib.hid h0
          subst hA1
          clear h0
          have hk0 : decide (0 < k) = false := decide_eq_false (by have := HK.out; omega)
          go_wp2
          go_quiet ((go_at_call 27; refine in_quiet (in_same x 0 2 true ⟨fun _ => HD.out, fun _ => rfl⟩ _)))
          clear hk0
          go_wp2
          go_roundw
          case rel => exact ⟨k + 1, by omega, by go_num, upP_snoc HA.out HT.out HD.out (fun j u hj _ => by have := HK.out; omega), _, rfl⟩
          case measure => simp [intOf]; omega
        · obtain ⟨j, hj⟩ : ∃ j, j + 1 = k := ⟨k - 1, by omega⟩
          obtain ⟨b2, off2, y, hA2, hb2, hat2, hc2⟩ := HX.out.at j (by omega)
          obtain ⟨rfl, rfl⟩ : b1 = b2 ∧ off = off2 := by rw [hA1] at hA2; injection hA2 with h; injection h with h1 h2; exact ⟨h1, h2⟩
          have HT0 := Lib.hid hat2
          have HJ := Lib.hid hj
          have HK0 : Hid ((0 : Int) < (k : Int)) := by show _ < _; omega
          have hkj : (k : Int) - 1 = (j : Int) := by omega
          have hkw : IntKind.i64.wrap ((k : Int) - 1) = (j : Int) := by rw [hkj]; exact IntWalk.i64_in _ ⟨by omega, by omega⟩
          have hjw : IntKind.i64.wrap (j : Int) = (j : Int) := IntWalk.i64_in _ ⟨by omega, by omega⟩
          have hjn : (j : Int) < (n : Int) := by omega
          have hjn' : j < n := by omega
          have hk0 : decide (0 < k) = true := decide_eq_true (by have := HK0.out; omega)
          subst hA1
          clear h0 hj hat2 hA2
          by_cases hle : x ≤ y
          · obtain rfl : b = false := HNo.out (upP_bad (by rw [HJ.out]; exact HT.out) HT0.out hle)
            go_wp2
            go_quiet ((go_at_call 27; refine in_quiet (in_same x 0 2 true ⟨fun _ => HD.out, fun _ => rfl⟩ _)))
            clear hk0
            go_wp2
            go_ret
            exact ⟨rfl, by rw [World.drewN_drewN]; exact below_drewN (Below.refl _ _) _⟩
          · have HLe : Hid (y < x) := by show _ < _; omega
            go_wp2
            go_quiet ((go_at_call 27; refine in_quiet (in_same x 0 2 true ⟨fun _ => HD.out, fun _ => rfl⟩ _)))
            clear hk0
            go_wp2
            go_roundw
            case rel => exact ⟨k + 1, by omega, by go_num, upP_snoc HA.out HT.out HD.out (asc_next HJ.out HT0.out HLe.out), _, rfl⟩
            case measure => simp [intOf]; omega
    · obtain rfl : k = n := by omega
      have h := HA.out
      rw [ptake_all HX.out.1] at h
      have HH := Lib.hid h
      clear h
      by_cases h0 : (0 : Int) < (k : Int)
      · have hd : decide (0 < k) = true := by simp; omega
        obtain rfl : b = true := HB.out.2 ⟨fun e => by have := HX.out.1; rw [e] at this; simp at this; omega, HH.out⟩
        go_wp2
        go_ret
        exact ⟨by simp, below_drewN (Below.refl _ _) _⟩
      · obtain rfl : b = false := by
          cases b
          · rfl
          · exact absurd (List.length_eq_zero_iff.1 (by rw [HX.out.1]; omega)) (HB.out.1 rfl).1
        go_wp2
        go_ret
        exact ⟨by simp; omega, below_drewN (Below.refl _ _) _⟩

set_option maxRecDepth 20000 in
theorem iIsF (w : World) (B : Nat) (A : Option Addr) (n c : Nat) (xs : List Int) (hi : Ints w B A n xs) (hn : n ≤ 1048576) (b : Bool) (hb : b = true ↔ AscP InF xs) :
    Calls Tryz.prog 48 #[.slice A n c] w fun e w' => e = .returned (.bool b) ∧ Below w.heap.size w w' := by
  have HC := Lib.hid (iAscF w B A n c xs hi hn b hb)
  clear hi hb
  go_enter Tryz.func48, Tryz.ntmps48
  go_wp2_with fail
  refine HC.out.mono ?_
  rintro e w1 ⟨rfl, rfl⟩
  go_wp2
  go_ret
  exact ⟨rfl, Below.refl _ _⟩
end Go.Proofs.YtnbgmiiknndleaaGreat.num
namespace Go.Proofs.YtnbgmiiknndleaaGreat.num
set_option maxRecDepth 20000
open Go.RowKit Go.Maps
set_option linter.unusedVariables false
set_option linter.unusedSimpArgs false

def lowNd (a : Int) : Nd := ⟨0, ⟨0, a, 0, none, 0, 0, [], none, 0, 0, []⟩⟩
def andNd : Nd := ⟨1, ⟨0, 0, 0, none, 0, 0, [], none, 0, 0, []⟩⟩
def lowNds : List Int → List Nd
  | [] => []
  | a :: r => lowNd a :: r.flatMap fun b => [lowNd b, andNd]
theorem lowNds_snoc {l : List Int} (h : l ≠ []) (b : Int) : lowNds (l ++ [b]) = lowNds l ++ [lowNd b] ++ [andNd] := by
  cases l with
  | nil => exact absurd rfl h
  | cons a r => simp [lowNds]
theorem lowNds_dat : ∀ l : List Int, datN (lowNds l) = lowN l
  | [] => rfl
  | a :: r => by
    have : ∀ r : List Int, datN (r.flatMap fun b => [lowNd b, andNd]) = r.flatMap fun b => [lowD b, andD] := fun r => by
      induction r with
      | nil => rfl
      | cons b r ih =>
        rw [List.flatMap_cons, List.flatMap_cons, ← ih]
        unfold datN
        rw [List.map_append]
        rfl
    show Nd.dat (lowNd a) :: datN (r.flatMap fun b => [lowNd b, andNd]) = _
    rw [this r]
    rfl
theorem lowNds_len {l : List Int} (h : l ≠ []) : (lowNds l).length = 2 * l.length - 1 := by
  have h1 := lowNds_dat l
  have h2 := congrArg List.length h1
  unfold datN at h2
  rw [List.length_map] at h2
  rw [h2, lowN_len h]
theorem lowNds_le {l : List Int} {k : Nat} (h : k ≤ 3) : (lowNds (l.take k)).length ≤ 6 := by
  by_cases h0 : l.take k = []
  · rw [h0]; simp [lowNds]
  · have h1 : (l.take k).length ≤ k := List.length_take_le _ _
    rw [lowNds_len h0]; omega
theorem nd_short : ∀ {l : List Int}, ShortN (lowNds l)
  | [] => by simp [ShortN, lowNds]
  | a :: r => fun x hx => by
    have hs : ∀ b, (lowNd b).t.Short := fun b => ⟨by show (0 : Nat) ≤ _; omega, by show (0 : Nat) ≤ _; omega⟩
    have ha : andNd.t.Short := ⟨by show (0 : Nat) ≤ _; omega, by show (0 : Nat) ≤ _; omega⟩
    unfold lowNds at hx
    rcases List.mem_cons.1 hx with rfl | hx
    · exact hs a
    · obtain ⟨b, _, hb⟩ := List.mem_flatMap.1 hx
      rcases List.mem_cons.1 hb with rfl | hb
      · exact hs b
      · rw [List.mem_singleton.1 hb]; exact ha
theorem lowNd_wi (w : World) (B : Nat) {a : Int} (h : InF a) : WiO w B (lowNd a).t :=
  ⟨by show (Lit.int .i64 0).wf = true; decide, WalkArith.wf_i64 (by unfold InF at h; show _ ≤ a ∧ a ≤ _; omega), by show (Lit.int .i64 0).wf = true; decide, World.ownsRow_nil .., World.ownsRow_nil .., fun b h => by cases h⟩
theorem andNd_wi (w : World) (B : Nat) : WiO w B andNd.t :=
  ⟨by show (Lit.int .i64 0).wf = true; decide, by show (Lit.int .i64 0).wf = true; decide, by show (Lit.int .i64 0).wf = true; decide, World.ownsRow_nil .., World.ownsRow_nil .., fun b h => by cases h⟩
theorem lowNd_has {a : Int} {b : Nat} : ¬ (lowNd a).t.has b := fun h => by rcases h with h | h <;> cases h
theorem andNd_has {b : Nat} : ¬ andNd.t.has b := fun h => by rcases h with h | h <;> cases h
theorem empty_nodes (w : World) : OwnN (w.alloc (.cells #[] 82)) w.heap.size (.slice (some ⟨w.heap.size, 0, none⟩) 0 0) [] :=
  OwnN.of_row (Nat.le_refl _) rfl (by decide) (by have h := made_nodes w 0; rwa [show madeCells zeroN (0 * 6) = #[] by simp [madeCells]] at h) (by simp) (by simp)
def lowQ (xs : List Int) (q : Bool) : List Nd := if q then lowNds xs else []
theorem lowQ_short {xs : List Int} {q : Bool} : ShortN (lowQ xs q) := by
  cases q
  · simp [ShortN, lowQ]
  · exact nd_short
def LowOut (xs : List Int) (q : Bool) (w : World) (e : Ending) (w' : World) : Prop := (∃ v, e = .returned (.tuple #[v, .bool q]) ∧ OwnN w' w.heap.size v (lowQ xs q)) ∧ Below w.heap.size w w'

set_option maxHeartbeats 3200000 in
set_option maxRecDepth 20000 in
theorem iLow (w : World) (B : Nat) (A : Option Addr) (n c : Nat) (xs : List Int) (hi : Ints w B A n xs) (hB : B ≤ w.heap.size) (hn : n ≤ 1048576) (q : Bool) (hq : q = true ↔ FL xs) :
    Calls Tryz.prog 35 #[.slice A n c] w (LowOut xs q w) := by
  have HX := Lib.hid hi
  have HQ := Lib.hid hq
  have HE0 := Lib.hid (OwnN.nil w w.heap.size)
  have HX0 := Lib.hid (Below.refl w.heap.size w)
  have HC := Lib.hid (iIsF w B A n c xs HX.out hn q hq)
  clear hi hq
  cases q
  · go_enter Tryz.func35, Tryz.ntmps35
    go_wp2_with fail
    refine HC.out.mono ?_
    rintro e w1 ⟨rfl, hb1⟩
    have HE1 := Lib.hid (HE0.out.below hb1)
    have HX1 := Lib.hid (below_on HX0.out hb1)
    clear hb1
    go_wp2
    go_ret2
    exact ⟨⟨_, rfl, OwnN.nil _ _⟩, HX1.out⟩
  · have HF := Lib.hid (HQ.out.1 rfl)
    have hn3 : n ≤ 3 := by have h1 := HF.out.len; have h2 := HX.out.1; omega
    have HLn0 := Lib.hid HX.out.1
    go_enter Tryz.func35, Tryz.ntmps35
    go_wp2_with fail
    refine HC.out.mono ?_
    rintro e w1 ⟨rfl, hb1⟩
    have HE1 := Lib.hid (HE0.out.below hb1)
    have HX1 := Lib.hid (below_on HX0.out hb1)
    clear hb1 HC
    go_wp2
    go_loopw [4, 12] (fun vo iv wr => ∃ k : Nat, k ≤ n ∧ iv = .int .i64 k ∧ OwnN wr w.heap.size vo (lowNds (xs.take k)) ∧ Below w.heap.size w wr) (fun vo iv _ => n - (intOf iv).toNat)
    case atStart => exact ⟨0, Nat.zero_le _, rfl, by rw [List.take_zero]; exact HE1.out, HX1.out⟩
    case round =>
      obtain ⟨k, hk, rfl, hown, hbel⟩ := hrel
      obtain ⟨AO, cO, rfl, -, hcO⟩ := hown.r.shape
      have HO := Lib.hid hown
      have HB := Lib.hid hbel
      clear hown hcO
      by_cases hlt : k < n
      · obtain ⟨b, off, x, hA1, hb, hat, hc⟩ := (HX.out.below (hbel.mono hB)).at k hlt
        have HAt := Lib.hid hat
        have HXf := Lib.hid (HF.out.2.1 x (List.mem_of_getElem? hat))
        have hlt' : (k : Int) < (n : Int) := by omega
        have HLn : Hid (((lowNds (xs.take k)).length + 1) * 80 ≤ 140737488355328) := Lib.hid (by have := lowNds_le (l := xs) (k := k) (by omega); omega)
        have HTk := Lib.hid (ptake_at hat)
        clear hat hbel
        subst hA1
        rcases Nat.eq_zero_or_pos k with h0 | h0
        · subst h0
          rw [Nat.add_zero] at hc
          clear hlt'
          have hlt' : (0 : Int) < (n : Int) := by omega
          go_wp2_with (at_builtin; refine wp_appG nodeCells_len nodeCells_one (T := 82) (tS := 65) Tryz.underlying65 info_node rfl (by decide) wr (by rfl) (.tmp 17) (.tmp 21) (by rfl) w.heap.size _ _ (by rfl) HO.out.r _ (lowNd x) (by rfl) 1 _ rfl (by rfl) HLn.out (by decide) HB.out.size ?_)
          intro v' w3 hr hg hat
          have HO3 := Lib.hid (HO.out.snoc hg hat hr rfl (lowNd_wi _ _ HXf.out) (fun b h => absurd h lowNd_has))
          have HB3 := Lib.hid (HB.out.grown hg HB.out.size (fun k hk => HO.out.r.lows k hk))
          clear hr hg hat
          go_wp2
          go_roundw
          case rel => exact ⟨1, by omega, by go_num, by have h := HO3.out; rw [HTk.out]; simpa [lowNds] using h, HB3.out⟩
          case measure => simp [intOf]; omega
        · have hk0 : decide (0 < k) = true := decide_eq_true h0
          have h0' : (0 : Int) < (k : Int) := by omega
          have HNe : Hid (xs.take k ≠ []) := Lib.hid (fun e => by have h1 := congrArg List.length e; rw [List.length_take, List.length_nil] at h1; have h2 := HLn0.out; omega)
          go_wp2_with (at_builtin; refine wp_appG nodeCells_len nodeCells_one (T := 82) (tS := 65) Tryz.underlying65 info_node rfl (by decide) wr (by rfl) (.tmp 17) (.tmp 21) (by rfl) w.heap.size _ _ (by rfl) HO.out.r _ (lowNd x) (by rfl) 1 _ rfl (by rfl) HLn.out (by decide) HB.out.size ?_)
          intro v' w3 hr hg hat
          have HO3 := Lib.hid (HO.out.snoc hg hat hr rfl (lowNd_wi _ _ HXf.out) (fun b h => absurd h lowNd_has))
          have HB3 := Lib.hid (HB.out.grown hg HB.out.size (fun k hk => HO.out.r.lows k hk))
          have HLn3 : Hid (((lowNds (xs.take k) ++ [lowNd x]).length + 1) * 80 ≤ 140737488355328) := Lib.hid (by have := lowNds_le (l := xs) (k := k) (by omega); rw [List.length_append, List.length_singleton]; omega)
          clear hr hg hat
          go_wp2_with (at_builtin; refine wp_appG nodeCells_len nodeCells_one (T := 82) (tS := 65) Tryz.underlying65 info_node rfl (by decide) w3 (by rfl) (.tmp 25) (.tmp 27) (by rfl) w.heap.size _ _ (by rfl) HO3.out.r _ andNd (by rfl) 1 _ rfl (by rfl) HLn3.out (by decide) HB3.out.size ?_)
          intro v4 w4 hr hg hat
          rw [show lowNds (xs.take k) ++ [lowNd x, andNd] = lowNds (xs.take k) ++ [lowNd x] ++ [andNd] by simp] at hr
          have HO4 := Lib.hid (HO3.out.snoc hg hat hr rfl (andNd_wi _ _) (fun b h => absurd h andNd_has))
          have HB4 := Lib.hid (HB3.out.grown hg HB3.out.size (fun k hk => HO3.out.r.lows k hk))
          clear hr hg hat
          go_wp2
          go_roundw
          case rel => exact ⟨k + 1, by omega, by go_num, by have h := HO4.out; rw [HTk.out, lowNds_snoc HNe.out]; exact h, HB4.out⟩
          case measure => simp [intOf]; omega
      · obtain rfl : k = n := by omega
        have HO1 : Hid (OwnN wr w.heap.size (.slice AO (lowNds (xs.take k)).length cO) (lowNds xs)) := Lib.hid (by have h := HO.out; rwa [ptake_all HLn0.out] at h ⊢)
        go_wp2
        go_ret2
        exact ⟨⟨_, rfl, by have h := HO.out; rwa [ptake_all HLn0.out] at h⟩, HB.out⟩

/-- As the law reads it. -/
def LowRes (D : List ND) (q : Bool) (w : World) (e : Ending) (w' : World) : Prop := (∃ v ts, e = .returned (.tuple #[v, .bool q]) ∧ datN ts = D ∧ ShortN ts ∧ OwnN w' w.heap.size v ts) ∧ Below w.heap.size w w'
theorem LowOut.res {xs : List Int} {q : Bool} {w : World} {e : Ending} {w' : World} (h : LowOut xs q w e w') : LowRes (lowE xs q) q w e w' := by
  obtain ⟨⟨v, h1, h2⟩, h3⟩ := h
  exact ⟨⟨v, _, h1, by cases q; rfl; exact lowNds_dat xs, lowQ_short, h2⟩, h3⟩
theorem iLowR (w : World) (B : Nat) (A : Option Addr) (n c : Nat) (xs : List Int) (hi : Ints w B A n xs) (hB : B ≤ w.heap.size) (hn : n ≤ 1048576) (q : Bool) (hq : q = true ↔ FL xs) (D : List ND) (hD : lowE xs q = D) :
    Calls Tryz.prog 35 #[.slice A n c] w (LowRes D q w) := (iLow w B A n c xs hi hB hn q hq).mono fun _ _ h => by rw [← hD]; exact h.res
theorem lowE_len {xs : List Int} {q : Bool} (hq : q = true ↔ FL xs) : (lowE xs q).length ≤ 1048576 := by
  cases q
  · simp [lowE]
  · have h := (hq.1 rfl)
    have h1 := h.len
    show (lowN xs).length ≤ _
    rw [lowN_len h.1]; omega
end Go.Proofs.YtnbgmiiknndleaaGreat.num
namespace Go.Proofs.YtnbgmiiknndleaaGreat.num
set_option maxRecDepth 20000
open Go.RowKit
set_option linter.unusedVariables false
set_option linter.unusedSimpArgs false

theorem any_step {its : List It} {hold : It → Bool} {k : Nat} {t : It} (hat : its[k]? = some t) (h : ∀ u ∈ its.take k, hold u = false) (h1 : hold t = false) : ∀ u ∈ its.take (k + 1), hold u = false := by
  rw [take_at hat]
  intro u hu
  rcases List.mem_append.1 hu with h2 | h2
  · exact h u h2
  · obtain rfl := List.mem_singleton.1 h2
    exact h1
set_option maxRecDepth 20000 in
set_option maxHeartbeats 800000 in
/-- slices.IndexFunc by a test with a bound receiver. -/
theorem ctIndex (w : World) (B lo p : Nat) (t : Tr) (A : Option Addr) (n c : Nat) (its : List It) (h : CtIn w B lo p t A n its) (hn : n ≤ 1048576) (rv : Value) (hold : It → Bool)
    (HC : ∀ W, Below w.heap.size w W → ∀ u ∈ its, Calls Tryz.prog 40 #[rv, ctV p u] W fun e w' => e = .returned (.bool (hold u)) ∧ Below W.heap.size W w') :
    Calls Tryz.prog 53 #[.slice A n c, .func (.func 40) #[rv] #[]] w fun e w' => (∃ r : Int, e = .returned (.int .i64 r) ∧ (0 ≤ r ↔ its.any hold = true)) ∧ Below w.heap.size w w' := by
  have HX := Lib.hid h
  have HF := Lib.hid HC
  clear h HC
  go_enter Tryz.func53, Tryz.ntmps53
  go_wp2
  go_loopw [8] (fun i wr => ∃ k : Nat, k ≤ n ∧ i = .int .i64 k ∧ (∀ u ∈ its.take k, hold u = false) ∧ Below w.heap.size w wr) (fun i _ => n - (intOf i).toNat)
  case atStart => exact ⟨0, Nat.zero_le _, rfl, by simp, Below.refl _ _⟩
  case round =>
    obtain ⟨k, hk, rfl, hall, hbel⟩ := hrel
    have HA := Lib.hid hall
    have HB := Lib.hid hbel
    clear hall
    by_cases hlt : k < n
    · obtain ⟨b, off, x, rfl, hb, hat, d0, d1, d2⟩ := ct_at HX.out.r k hlt
      have f0 := (hbel.cell (p := ⟨b, off + k * 3, none⟩) hb).trans d0
      have f1 := (hbel.cell (p := ⟨b, off + k * 3 + 1, none⟩) hb).trans d1
      have f2 := (hbel.cell (p := ⟨b, off + k * 3 + 2, none⟩) hb).trans d2
      have HAt := Lib.hid hat
      have hlt' : (k : Int) < (n : Int) := by omega
      have HC1 := HF.out wr HB.out x (mem_of_at hat)
      obtain ⟨z, hz⟩ : ∃ z, hold x = z := ⟨_, rfl⟩
      rw [hz] at HC1
      have hvx : ctV p x = .agg #[.int .i64 x.id, .slice x.A x.n x.c, .pointer (some ⟨p, 0, none⟩)] := rfl
      rw [hvx] at HC1
      have HZ := Lib.hid hz
      have HC2 := Lib.hid HC1
      clear d0 d1 d2 hat hbel hz hvx HC1
      go_wp2_with fail
      refine HC2.out.mono ?_
      rintro e w2 ⟨rfl, hb2⟩
      have HB2 := Lib.hid (below_on HB.out hb2)
      clear hb2 f0 f1 f2 HC2
      cases z
      · go_wp2
        go_roundw
        case rel => exact ⟨k + 1, by omega, by go_num, any_step HAt.out HA.out HZ.out, HB2.out⟩
        case measure => simp [intOf]; omega
      · go_wp2
        go_ret
        exact ⟨⟨k, rfl, ⟨fun _ => List.any_eq_true.2 ⟨x, mem_of_at HAt.out, HZ.out⟩, fun _ => by omega⟩⟩, HB2.out⟩
    · obtain rfl : k = n := by omega
      have h := HA.out
      rw [take_all HX.out.r.len] at h
      have HH := Lib.hid h
      clear h hbel
      go_wp2
      go_ret
      refine ⟨⟨-1, rfl, ⟨fun h => by omega, fun h => ?_⟩⟩, HB.out⟩
      obtain ⟨u, hu, hh⟩ := List.any_eq_true.1 h
      rw [HH.out u hu] at hh
      cases hh
set_option maxRecDepth 20000 in
theorem ctContains (w : World) (B lo p : Nat) (t : Tr) (A : Option Addr) (n c : Nat) (its : List It) (h : CtIn w B lo p t A n its) (hn : n ≤ 1048576) (rv : Value) (hold : It → Bool)
    (HC : ∀ W, Below w.heap.size w W → ∀ u ∈ its, Calls Tryz.prog 40 #[rv, ctV p u] W fun e w' => e = .returned (.bool (hold u)) ∧ Below W.heap.size W w') :
    Calls Tryz.prog 39 #[.slice A n c, .func (.func 40) #[rv] #[]] w fun e w' => e = .returned (.bool (its.any hold)) ∧ Below w.heap.size w w' := by
  have HI := Lib.hid (ctIndex w B lo p t A n c its h hn rv hold HC)
  clear h HC
  go_enter Tryz.func39, Tryz.ntmps39
  go_wp2_with fail
  refine HI.out.mono ?_
  rintro e w1 ⟨⟨r, rfl, hr⟩, hb1⟩
  have HB1 := Lib.hid hb1
  have HR := Lib.hid hr
  clear hr hb1
  by_cases h0 : 0 ≤ r
  · have hd : decide (r ≥ 0) = true := by simpa using h0
    go_wp2
    go_ret
    exact ⟨by rw [HR.out.1 h0]; rfl, HB1.out⟩
  · have hd : decide (r ≥ 0) = false := by simpa using h0
    have hlt : r < 0 := by omega
    go_wp2
    go_ret
    refine ⟨?_, HB1.out⟩
    cases hq : its.any hold
    · rfl
    · exact absurd (HR.out.2 hq) (by omega)
theorem bestB_any (t : Tr) (its : List It) (x : It) : bestB t (its.map It.dat) x.dat = !its.any fun y => btD t y.dat x.dat := by
  unfold bestB
  rw [List.all_map, List.not_any_eq_all_not]
  rfl
set_option maxRecDepth 20000 in
theorem iBestOf (w : World) (B lo p : Nat) (t : Tr) (A : Option Addr) (n c : Nat) (its : List It) (h : CtIn w B lo p t A n its) (hn : n ≤ 1048576) (x : It) (hx : Ints w B x.A x.n x.xs) (px : IsP x.dat) :
    Calls Tryz.prog 31 #[.slice A n c, ctV p x] w fun e w' => e = .returned (.bool (bestB t (its.map It.dat) x.dat)) ∧ Below w.heap.size w w' := by
  have HC : Hid (∀ w1, Below w.heap.size w w1 → Calls Tryz.prog 39 #[.slice A n c, .func (.func 40) #[.agg #[.int .i64 x.id, .slice x.A x.n x.c, .pointer (some ⟨p, 0, none⟩)]] #[]] w1 fun e w' => e = .returned (.bool (its.any fun y => btD t y.dat x.dat)) ∧ Below w1.heap.size w1 w') := Lib.hid fun w1 h1 =>
    ctContains w1 B lo p t A n c its (h.step h1) hn _ _ fun W hW u hu => by
      have h2 := h.step (below_on h1 hW)
      exact iBeaten W B lo p t x u h2.t h2.hB (hx.below ((below_on h1 hW).mono h.hB)) (h2.x u hu).1 px (h2.x u hu).2
  rw [bestB_any]
  generalize (its.any fun y => btD t y.dat x.dat) = z at *
  have hvx : ctV p x = .agg #[.int .i64 x.id, .slice x.A x.n x.c, .pointer (some ⟨p, 0, none⟩)] := rfl
  rw [hvx]
  clear hvx h hx px
  have HB0 : Hid (Below w.heap.size w (w.alloc (.cells #[.int .i64 x.id, .slice x.A x.n x.c, .pointer (some ⟨p, 0, none⟩)] 61))) := Lib.hid ((Below.refl _ w).alloc (Nat.le_refl _) _)
  go_enter Tryz.func31, Tryz.ntmps31
  go_wp2_with fail
  refine (HC.out _ HB0.out).mono ?_
  rintro e w1 ⟨rfl, hb1⟩
  have HB1 := Lib.hid (below_on HB0.out hb1)
  clear hb1
  go_wp2
  go_ret
  exact ⟨rfl, HB1.out⟩
theorem filter_step {its : List It} {hold : It → Bool} {k : Nat} {t : It} (hat : its[k]? = some t) : (its.take (k + 1)).filter hold = (its.take k).filter hold ++ (if hold t then [t] else []) := by
  rw [take_at hat, List.filter_append]
  congr 1
  cases h : hold t <;> simp [h]
set_option maxRecDepth 20000 in
set_option maxHeartbeats 800000 in
theorem ctIds (w : World) (p : Nat) (A : Option Addr) (n c : Nat) (l : List It) (h : ReadG (ctCells p) 3 w w.heap.size A n l) (hn : n ≤ 1048576) :
    Calls Tryz.prog 37 #[.slice A n c] w fun e w' => (∃ v, e = .returned v ∧ OwnI w' w.heap.size v (idL l)) ∧ Below w.heap.size w w' := by
  have hmk := run_make_row' (P := Tryz.prog) 23 3 (.int .i64 0) 8 Tryz.underlying23 info_int rfl .i64 .i64 n (by omega) (by omega)
  have HX := Lib.hid h
  clear h
  go_enter Tryz.func37, Tryz.ntmps37
  go_wp2
  clear hmk
  go_loopw [11] (fun i wr => ∃ k : Nat, k ≤ n ∧ i = .int .i64 k ∧ wr.rowIs w.heap.size 3 n (fun j => if j < k then .int .i64 ((idL l).getD j 0) else .int .i64 0) ∧ Below w.heap.size w wr) (fun i _ => n - (intOf i).toNat)
  case atStart =>
    exact ⟨0, Nat.zero_le _, rfl, by simpa using World.rowIs_made w (.int .i64 0) n 3, (Below.refl _ _).alloc (Nat.le_refl _) _⟩
  case round =>
    obtain ⟨k, hk, rfl, hrow, hbel⟩ := hrel
    have HR := Lib.hid hrow
    have HB := Lib.hid hbel
    by_cases hlt : k < n
    · obtain ⟨x, hat⟩ := HX.out.get hlt
      obtain ⟨b, off, rfl, hb, hc⟩ := HX.out.at' k x hat
      have f0 := (hbel.cell (p := ⟨b, off + k * 3, none⟩) hb).trans (hc 0 _ rfl)
      have f1 := (hbel.cell (p := ⟨b, off + k * 3 + 1, none⟩) hb).trans (hc 1 _ rfl)
      have f2 := (hbel.cell (p := ⟨b, off + k * 3 + 2, none⟩) hb).trans (hc 2 _ rfl)
      have hl1 := World.rowIs.lt hrow
      have g1 : wr.cell? ⟨w.heap.size, k, none⟩ = some (.int .i64 0) := by rw [World.rowIs.cell hrow hlt, if_neg (by omega)]
      have g2 := World.rowIs.frozen hrow k
      have HAt := Lib.hid hat
      have hsz := Lib.hid hbel.size
      clear hrow hbel hc hat
      go_wp2
      go_roundw
      case rel =>
        refine ⟨k + 1, by omega, by go_num, ?_, ?_⟩
        · first
          | exact (World.rowIs.set (World.rowIs.alloc HR.out _) k (.int .i64 x.id)).congr (fun j _ => by rw [← idL_get HAt.out]; exact getD_prefix (idL l) k j)
          | exact (World.rowIs.alloc (World.rowIs.set HR.out k (.int .i64 x.id)) _).congr (fun j _ => by rw [← idL_get HAt.out]; exact getD_prefix (idL l) k j)
        · first
          | exact (HB.out.alloc hsz.out _).setCell (Nat.le_refl _) _
          | exact (HB.out.setCell (p := ⟨w.heap.size, k, none⟩) (Nat.le_refl _) _).alloc (by simp [World.setCell]; exact hsz.out) _
      case measure => simp [intOf]; omega
    · obtain rfl : k = n := by omega
      clear hrow hbel
      go_wp2
      go_ret
      refine ⟨⟨_, rfl, ?_⟩, HB.out⟩
      have hl : (idL l).length = k := by rw [idL_len, HX.out.len]
      refine ownI_of_row (Nat.le_refl _) hl (Nat.le_refl _) (by unfold maxLen; omega) HR.out fun j hj => ?_
      rw [if_pos hj, List.getElem?_map, List.getD_eq_getElem?_getD, List.getElem?_eq_getElem (by omega)]; rfl
end Go.Proofs.YtnbgmiiknndleaaGreat.num
namespace Go.Proofs.YtnbgmiiknndleaaGreat.num
set_option maxRecDepth 20000
open Go.RowKit
set_option linter.unusedVariables false
set_option linter.unusedSimpArgs false

def zC (j : Nat) : Value := (#[.int .i64 0, .slice none 0 0, .pointer none] : Array Value)[j % 3]!
def ctCell (p : Nat) (l : List It) (j : Nat) : Value := cellG (ctCells p) zC l j
theorem make_ct (n : Nat) (hn : n ≤ 1048576) (w : World) :
    (Instr.makeSlice 46 (.int .i64 (n : Int)) (.int .i64 (n : Int))).run Tryz.prog w = .ok (.slice (some ⟨w.heap.size, 0, none⟩) n n) (w.alloc (.cells (madeCells #[.int .i64 0, .slice none 0 0, .pointer none] (n * 3)) 61)) := by
  obtain ⟨i, hi, hzz⟩ := Option.map_eq_some_iff.1 info_ct
  simp only [Prod.mk.injEq] at hzz
  obtain ⟨hz, hs, hb⟩ := hzz
  have hr := run_make (P := Tryz.prog) w _ _ i _ Tryz.underlying46 hi hz .i64 .i64 n n (by omega) (Int.le_refl _) (by rw [hb]; omega) (by omega)
  rw [hs] at hr
  simp only [Int.toNat_natCast] at hr
  exact hr
theorem made_ct (w : World) (n p : Nat) : (w.alloc (.cells (madeCells #[.int .i64 0, .slice none 0 0, .pointer none] (n * 3)) 61)).rowIs w.heap.size 61 (n * 3) (ctCell p []) :=
  ⟨_, heap_alloc_new w _, size_madeCells _ _, fun i hi => by simp [madeCells, hi, ctCell, cellG, zC]⟩
theorem ctCell_snoc {p : Nat} {l : List It} {k : Nat} (h : l.length = k) (x : It) (j : Nat) :
    (if j = k * 3 + 2 then .pointer (some ⟨p, 0, none⟩) else if j = k * 3 + 1 then .slice x.A x.n x.c else if j = k * 3 then .int .i64 x.id else ctCell p l j) = ctCell p (l ++ [x]) j := by
  have e : ∀ i v, (ctCells p x)[i]? = some v → ctCell p (l ++ [x]) (k * 3 + i) = v := fun i v hv => cellG_last (ctCells_len p) zC h x hv
  by_cases h2 : j = k * 3 + 2
  · subst h2; rw [if_pos rfl, e 2 _ rfl]
  rw [if_neg h2]
  by_cases h1 : j = k * 3 + 1
  · subst h1; rw [if_pos rfl, e 1 _ rfl]
  rw [if_neg h1]
  by_cases h0 : j = k * 3
  · subst h0; rw [if_pos rfl]; exact (e 0 _ rfl).symm
  rw [if_neg h0]
  exact (cellG_more (ctCells_len p) zC h x (by omega)).symm
theorem ctCell_zero {p : Nat} {l : List It} {k : Nat} (h : l.length = k) : ctCell p l (k * 3) = .int .i64 0 ∧ ctCell p l (k * 3 + 1) = .slice none 0 0 ∧ ctCell p l (k * 3 + 2) = .pointer none := by
  refine ⟨?_, ?_, ?_⟩
  · rw [ctCell, cellG_none (ctCells_len p) zC (by omega)]; unfold zC; rw [show k * 3 % 3 = 0 by omega]; rfl
  · rw [ctCell, cellG_none (ctCells_len p) zC (by omega)]; unfold zC; rw [show (k * 3 + 1) % 3 = 1 by omega]; rfl
  · rw [ctCell, cellG_none (ctCells_len p) zC (by omega)]; unfold zC; rw [show (k * 3 + 2) % 3 = 2 by omega]; rfl
/-- What contestOf hands back. -/
def ContOut (B lo : Nat) (nds : List ND) (its : List It) (n : Nat) (e : Ending) (w' : World) : Prop :=
  (∃ (t : Tr) (p g : Nat), IsE nds ∧ AreP (its.map It.dat) ∧ Post nds t ∧ e = .returned (.slice (some ⟨g, 0, none⟩) n n) ∧ CtIn w' B lo p t (some ⟨g, 0, none⟩) n its) ∨ (¬ (IsE nds ∧ AreP (its.map It.dat)) ∧ e = .returned (.slice none 0 0))
set_option maxRecDepth 20000 in
set_option maxHeartbeats 1600000 in
theorem iContest (w : World) (B : Nat) (A : Option Addr) (n c : Nat) (its : List It) (A2 : Option Addr) (n2 c2 : Nat) (ns : List Nd) (h : InB w B A n its A2 n2 c2 ns) :
    Calls Tryz.prog 36 #[.slice A n c, .slice A2 n2 c2] w fun e w' => ContOut B w.heap.size (datN ns) its n e w' ∧ Below w.heap.size w w' := by
  have HT := Lib.hid (iTreeOfW w B A2 n2 c2 ns h.e h.hB h.hnc h.hc h.se)
  obtain ⟨qa, hqa⟩ := bool_of (AreP (its.map It.dat))
  have HA : Hid (∀ w1, Below w.heap.size w w1 → Calls Tryz.prog 50 #[.slice A n c] w1 fun e w' => e = .returned (.bool qa) ∧ Below w1.heap.size w1 w') := Lib.hid fun w1 h1 => iAre w1 B A n c its (h.below h1).i (h.below h1).hB qa hqa
  have HX := Lib.hid h.i
  have hB := h.hB
  have hn := h.hn
  have HQ := Lib.hid hqa
  generalize datN ns = nds at *
  clear h hqa
  go_enter Tryz.func36, Tryz.ntmps36
  go_wp2_with fail
  refine HT.out.mono ?_
  rintro e w1 ⟨hout, hb1⟩
  have HB1 := Lib.hid hb1
  clear hb1 HT
  rcases hout with ⟨he, t, p, ht, rfl, hpa⟩ | ⟨he, rfl⟩
  · have HE := Lib.hid he
    have HPo := Lib.hid ht
    have HPa := Lib.hid hpa
    clear he ht hpa
    go_wp2_with fail
    refine (HA.out _ HB1.out).mono ?_
    rintro e w2 ⟨rfl, hb2⟩
    have HB2 := Lib.hid (below_on HB1.out hb2)
    have HPa2 := Lib.hid (HPa.out.below (Nat.le_trans hB HB1.out.size) hb2)
    clear hb2 HPa
    cases qa
    · go_wp2
      go_ret
      exact ⟨.inr ⟨(fun hh => by have := HQ.out.2 hh.2; cases this), rfl⟩, HB2.out⟩
    · have HAr : Hid (AreP (its.map It.dat)) := Lib.hid (HQ.out.1 (by first | rfl | trivial))
      have hmk := make_ct n hn
      go_wp2
      clear hmk
      obtain ⟨g, hg⟩ : ∃ g, g = w2.heap.size := ⟨_, rfl⟩
      have HR0 : Hid ((w2.alloc (.cells (madeCells #[.int .i64 0, .slice none 0 0, .pointer none] (n * 3)) 61)).rowIs g 61 (n * 3) (ctCell p (its.take 0))) := Lib.hid (hg ▸ made_ct w2 n p)
      have HW0 : Hid (Below w2.heap.size w2 (w2.alloc (.cells (madeCells #[.int .i64 0, .slice none 0 0, .pointer none] (n * 3)) 61))) := Lib.hid ((Below.refl _ _).alloc (Nat.le_refl _) _)
      rw [← hg]
      generalize (w2.alloc (.cells (madeCells #[.int .i64 0, .slice none 0 0, .pointer none] (n * 3)) 61)) = w3 at *
      have HG := Lib.hid hg
      clear hg
      go_loopw [23] (fun i wr => ∃ k : Nat, k ≤ n ∧ i = .int .i64 k ∧ wr.rowIs g 61 (n * 3) (ctCell p (its.take k)) ∧ Below w2.heap.size w2 wr) (fun i _ => n - (intOf i).toNat)
      case atStart => exact ⟨0, Nat.zero_le _, rfl, HR0.out, HW0.out⟩
      case round =>
        obtain ⟨k, hk, rfl, hrow, hbel⟩ := hrel
        have HR := Lib.hid hrow
        have HB := Lib.hid hbel
        by_cases hlt : k < n
        · obtain ⟨b1, off, x, rfl, hb1, hat, d0, d1, -⟩ := HX.out.at k hlt
          have hbw : b1 < w2.heap.size := Nat.lt_of_lt_of_le hb1 (Nat.le_trans hB HB2.out.size)
          have f0 := (hbel.cell (p := ⟨b1, off + k * 2, none⟩) hbw).trans ((HB2.out.cell (p := ⟨b1, off + k * 2, none⟩) (Nat.lt_of_lt_of_le hb1 hB)).trans d0)
          have f1 := (hbel.cell (p := ⟨b1, off + k * 2 + 1, none⟩) hbw).trans ((HB2.out.cell (p := ⟨b1, off + k * 2 + 1, none⟩) (Nat.lt_of_lt_of_le hb1 hB)).trans d1)
          have HAt := Lib.hid hat
          have hlk : (its.take k).length = k := by rw [List.length_take, HX.out.1]; omega
          have hz := ctCell_zero (p := p) hlk
          have g0 : wr.cell? ⟨g, k * 3, none⟩ = some (.int .i64 0) := by rw [World.rowIs.cell hrow (by omega), hz.1]
          have g1 : wr.cell? ⟨g, k * 3 + 1, none⟩ = some (.slice none 0 0) := by rw [World.rowIs.cell hrow (by omega), hz.2.1]
          have g2 : wr.cell? ⟨g, k * 3 + 2, none⟩ = some (.pointer none) := by rw [World.rowIs.cell hrow (by omega), hz.2.2]
          have z0 := World.rowIs.frozen hrow (k * 3)
          have z1 := World.rowIs.frozen hrow (k * 3 + 1)
          have z2 := World.rowIs.frozen hrow (k * 3 + 2)
          have hgl := World.rowIs.lt hrow
          have HLk := Lib.hid hlk
          have hsz := Lib.hid hbel.size
          clear hrow hbel d0 d1 hat hlk hz
          go_wp2
          go_roundw
          case rel =>
            refine ⟨k + 1, by omega, by go_num, ?_, ?_⟩
            · rw [take_at HAt.out]
              exact (World.rowIs.alloc (World.rowIs.set (World.rowIs.set (World.rowIs.set HR.out (k * 3) (.int .i64 x.id)) (k * 3 + 1) (.slice x.A x.n x.c)) (k * 3 + 2) (.pointer (some ⟨p, 0, none⟩))) _).congr (fun j _ => ctCell_snoc HLk.out x j)
            · exact (((HB.out.setCell (by rw [HG.out]; exact Nat.le_refl _) _).setCell (by rw [HG.out]; exact Nat.le_refl _) _).setCell (by rw [HG.out]; exact Nat.le_refl _) _).alloc (by simp [World.setCell]; exact hsz.out) _
          case measure => simp [intOf]; omega
        · obtain rfl : k = n := by omega
          clear hrow hbel
          go_wp2
          go_ret
          have HBw := HB2.out.trans (HB.out.mono HB2.out.size)
          refine ⟨.inl ⟨t, p, g, HE.out, HAr.out, HPo.out, rfl, ?_⟩, HBw⟩
          have hR := HR.out
          rw [take_all HX.out.1] at hR
          have hown : OwnG 61 (ctCells p) 3 wr g (.slice (some ⟨g, 0, none⟩) k k) its := OwnG.of_row (ctCells_len p) (Nat.le_refl _) HX.out.1 (Nat.le_refl _) (by unfold maxLen; omega) hR fun j hj => cellG_own (ctCells_len p) zC HX.out.1 hj
          exact ⟨OwnG.read (ctCells_len p) hown, fun u hu => ⟨(HX.out.mem hu).below (HBw.mono hB), HAr.out.1 _ (List.mem_map_of_mem hu)⟩, HPa2.out.below (Nat.le_trans hB HB2.out.size) HB.out, Nat.le_trans hB HBw.size⟩
  · have HE := Lib.hid he
    clear he
    go_wp2
    go_ret
    exact ⟨.inr ⟨fun hh => HE.out hh.1, rfl⟩, HB1.out⟩
/-! The functions. -/
theorem three_set {w : World} {g : Nat} {T : TypeId} {u0 u1 u2 v0 v1 v2 : Value} (h : w.heap[g]? = some (.cells #[u0, u1, u2] T (0, 0))) : (((w.setCell ⟨g, 0, none⟩ v0).setCell ⟨g, 1, none⟩ v1).setCell ⟨g, 2, none⟩ v2).heap[g]? = some (.cells #[v0, v1, v2] T (0, 0)) := by
  have h := heap_setCell_same _ g 2 _ _ v2 (heap_setCell_same _ g 1 _ _ v1 (heap_setCell_same w g 0 _ _ v0 h))
  simpa using h
theorem block_alloc {w : World} {g : Nat} {o : Obj} (h : w.heap[g]? = some o) (o2 : Obj) : (w.alloc o2).heap[g]? = some o := (Below.heap_alloc _ _ _ (lt_of_block h)).trans h
end Go.Proofs.YtnbgmiiknndleaaGreat.num
namespace Go.Proofs.YtnbgmiiknndleaaGreat.num
set_option maxRecDepth 20000
open Go.RowKit Go.Maps
set_option linter.unusedVariables false
set_option linter.unusedSimpArgs false

/-- Items that came in, with all bounds. -/
structure ItB (w : World) (B : Nat) (A : Option Addr) (n : Nat) (its : List It) : Prop where
  i : Items w B A n its
  hB : B ≤ w.heap.size
  hn : n ≤ 1048576
  si : ∀ t ∈ its, t.n ≤ 1048576
theorem ItB.below {w w' : World} {B : Nat} {A : Option Addr} {n : Nat} {its : List It} (h : ItB w B A n its) (hb : Below w.heap.size w w') : ItB w' B A n its := ⟨h.i.below (hb.mono h.hB), Nat.le_trans h.hB hb.size, h.hn, h.si⟩
theorem Items.up {w : World} {B B' : Nat} {A : Option Addr} {n : Nat} {its : List It} (h : Items w B A n its) (hB : B ≤ B') : Items w B' A n its :=
  ⟨h.1, fun k hk => by
    obtain ⟨b, off, ha, hb, h1, h2, h3⟩ := h.2 k hk
    exact ⟨b, off, ha, Nat.lt_of_lt_of_le hb hB, h1, h2, h3.more hB⟩⟩
def LowC (f : List Int) (q : Bool) (its : List It) (n : Nat) (w : World) (e : Ending) (w' : World) : Prop :=
  ((∃ p g lo B', q = true ∧ AreP (its.map It.dat) ∧ e = .returned (.slice (some ⟨g, 0, none⟩) n n) ∧ CtIn w' B' lo p (lowT f) (some ⟨g, 0, none⟩) n its ∧ w.heap.size ≤ lo) ∨ (¬ (q = true ∧ AreP (its.map It.dat)) ∧ e = .returned (.slice none 0 0))) ∧ Below w.heap.size w w'
theorem lowE_is {f : List Int} {q : Bool} (hq : q = true ↔ FL f) : IsE (lowE f q) ↔ q = true := by
  cases q
  · exact ⟨fun h => absurd h nil_isE, fun h => by cases h⟩
  · exact ⟨fun _ => rfl, fun _ => (hq.1 rfl).isE⟩
set_option maxRecDepth 20000 in
theorem iLowC (w : World) (B : Nat) (A : Option Addr) (n c : Nat) (its : List It) (h : ItB w B A n its) (B2 : Nat) (A2 : Option Addr) (n2 c2 : Nat) (f : List Int) (hf : Ints w B2 A2 n2 f) (hB2 : B2 ≤ w.heap.size) (hn2 : n2 ≤ 1048576) (q : Bool) (hq : q = true ↔ FL f) :
    Calls Tryz.prog 22 #[.slice A n c, .slice A2 n2 c2] w (LowC f q its n w) := by
  have HL := Lib.hid (iLow w B2 A2 n2 c2 f hf hB2 hn2 q hq)
  have HI := Lib.hid h
  have HQ := Lib.hid hq
  clear h hf hq hB2
  go_enter Tryz.func22, Tryz.ntmps22
  go_wp2_with fail
  refine HL.out.mono ?_
  rintro e w1 ⟨⟨v, rfl, ho⟩, hb⟩
  obtain ⟨A3, c3, rfl, h1, h2⟩ := ho.r.shape
  have hlen : (lowQ f q).length ≤ 1048576 := by
    have h1 := lowE_len HQ.out
    have h2 : datN (lowQ f q) = lowE f q := by cases q; rfl; exact lowNds_dat f
    rw [← h2] at h1
    unfold datN at h1
    rwa [List.length_map] at h1
  have HC := Lib.hid (iContest w1 w1.heap.size A n c its A3 (lowQ f q).length c3 (lowQ f q) ⟨(HI.out.below hb).i.up (HI.out.below hb).hB, ho.nodes, Nat.le_refl _, HI.out.hn, hlen, h1, Nat.le_trans h2 (by decide), HI.out.si, lowQ_short⟩)
  have HD : Hid (datN (lowQ f q) = lowE f q) := Lib.hid (by cases q; rfl; exact lowNds_dat f)
  have HB := Lib.hid hb
  clear ho hb h1 h2 hlen HL
  go_wp2_with fail
  refine HC.out.mono ?_
  rintro e w2 ⟨hout, hb2⟩
  have HB2 := Lib.hid (below_on HB.out hb2)
  rw [HD.out] at hout
  clear hb2 HC
  rcases hout with ⟨t, p, g, he, ha, ht, rfl, hct⟩ | ⟨hno, rfl⟩
  · have hqt := (lowE_is HQ.out).1 he
    have HT : Hid (t = lowT f) := Lib.hid (by
      subst hqt
      exact ht.one (HQ.out.1 rfl).post)
    have HCt := Lib.hid hct
    have HA := Lib.hid ha
    clear he ha ht hct
    go_wp2
    go_ret
    exact ⟨.inl ⟨p, g, _, _, hqt, HA.out, rfl, HT.out ▸ HCt.out, HB.out.size⟩, HB2.out⟩
  · have HN := Lib.hid hno
    clear hno
    go_wp2
    go_ret
    exact ⟨.inr ⟨fun h => HN.out ⟨(lowE_is HQ.out).2 h.1, h.2⟩, rfl⟩, HB2.out⟩
end Go.Proofs.YtnbgmiiknndleaaGreat.num
namespace Go.Proofs.YtnbgmiiknndleaaGreat.num
set_option maxRecDepth 20000
open Go.RowKit
set_option linter.unusedVariables false
set_option linter.unusedSimpArgs false

theorem leF_step {f : List Int} {k : Nat} {v : Int} (h : f[k]? = some v) (a b : List Int) : leF (f.take (k + 1)) a b = (leF (f.take k) a b && decide (a.getD v.toNat 0 ≤ b.getD v.toNat 0)) := by
  rw [ptake_at h, leF_cons]
  unfold leF
  simp
theorem ltF_step {f : List Int} {k : Nat} {v : Int} (h : f[k]? = some v) (a b : List Int) : ltF (f.take (k + 1)) a b = (ltF (f.take k) a b || decide (a.getD v.toNat 0 < b.getD v.toNat 0)) := by
  rw [ptake_at h, ltF_cons]
  unfold ltF
  simp
theorem leF_bad {f : List Int} {k : Nat} {v : Int} (h : f[k]? = some v) {a b : List Int} (hv : b.getD v.toNat 0 < a.getD v.toNat 0) : belF f a b = false := by
  have h1 : leF f a b = false := by
    unfold leF
    rw [List.all_eq_false]
    exact ⟨v, List.mem_of_getElem? h, by rw [decide_eq_true_iff]; omega⟩
  unfold belF
  rw [h1]
  rfl
set_option maxRecDepth 20000 in
set_option maxHeartbeats 1600000 in
theorem sBelow (W : World) (B : Nat) (A1 A2 A3 : Option Addr) (n1 c1 n2 c2 n3 c3 : Nat) (xs ys f : List Int) (h1 : Ints W B A1 n1 xs) (h2 : Ints W B A2 n2 ys) (h3 : Ints W B A3 n3 f) (l1 : xs.length = 3) (l2 : ys.length = 3) (hf : FL f) :
    Calls Tryz.prog 29 #[.slice A1 n1 c1, .slice A2 n2 c2, .slice A3 n3 c3] W fun e w' => e = .returned (.bool (belF f xs ys)) ∧ ∃ m, w' = W.drewN m := by
  have H1 := Lib.hid h1
  have H2 := Lib.hid h2
  have H3 := Lib.hid h3
  have HF := Lib.hid hf
  have hn1 : n1 = 3 := h1.1.symm.trans l1
  have hn2 : n2 = 3 := h2.1.symm.trans l2
  have hn3 : n3 ≤ 3 := by have h4 := hf.len; have h5 := h3.1; omega
  have HL3 := Lib.hid h3.1
  clear h1 h2 h3 hf
  subst hn1 hn2
  go_enter Tryz.func29, Tryz.ntmps29
  go_wp2
  go_loopw [7, 8] (fun lv iv wr => ∃ (k : Nat) (lb : Bool), k ≤ n3 ∧ iv = .int .i64 k ∧ lv = .bool lb ∧ lb = ltF (f.take k) xs ys ∧ leF (f.take k) xs ys = true ∧ ∃ m, wr = W.drewN m) (fun _ iv _ => n3 - (intOf iv).toNat)
  case atStart => exact ⟨0, _, Nat.zero_le _, rfl, rfl, rfl, rfl, 0, rfl⟩
  case round =>
    obtain ⟨k, lb, hk, rfl, rfl, hlb, hle, m, rfl⟩ := hrel
    have HLb := Lib.hid hlb
    have HLe := Lib.hid hle
    clear hlb hle
    by_cases hlt : k < n3
    · obtain ⟨b3, o3, v, rfl, -, hat, hc3⟩ := H3.out.at k hlt
      have HAt := Lib.hid hat
      have hv := HF.out.2.1 v (List.mem_of_getElem? hat)
      obtain ⟨kk, hkv, hkk⟩ : ∃ kk : Nat, v = (kk : Int) ∧ kk < 3 := ⟨v.toNat, by unfold InF at hv; omega, by unfold InF at hv; omega⟩
      subst hkv
      obtain ⟨b1, o1, x, rfl, -, hx, hc1⟩ := H1.out.at kk hkk
      obtain ⟨b2, o2, y, rfl, -, hy, hc2⟩ := H2.out.at kk hkk
      have HX : Hid (xs.getD (Int.toNat (kk : Int)) 0 = x) := Lib.hid (by rw [Int.toNat_natCast, List.getD_eq_getElem?_getD, hx]; rfl)
      have HY : Hid (ys.getD (Int.toNat (kk : Int)) 0 = y) := Lib.hid (by rw [Int.toNat_natCast, List.getD_eq_getElem?_getD, hy]; rfl)
      have hlt' : (k : Int) < (n3 : Int) := by omega
      have hk3 : (kk : Int) < 3 := by omega
      have hk0 : (0 : Int) ≤ (kk : Int) := by omega
      clear hat hv hx hy
      by_cases hxy : y < x
      · have HR : Hid (belF f xs ys = false) := Lib.hid (leF_bad HAt.out (by rw [HX.out, HY.out]; exact hxy))
        have hd : decide (x > y) = true := by simpa using hxy
        go_wp2
        go_quiet (fail)
        go_wp2
        go_ret
        exact ⟨by rw [HR.out]; first | done | rfl, by first | exact ⟨_, rfl⟩ | (rw [World.drewN_drewN]; exact ⟨_, rfl⟩)⟩
      · have HLe2 : Hid (leF (f.take (k + 1)) xs ys = true) := Lib.hid (by
          rw [leF_step HAt.out, HLe.out, HX.out, HY.out]
          simp; omega)
        have HLt2 : Hid (ltF (f.take (k + 1)) xs ys = (lb || decide (x < y))) := Lib.hid (by rw [ltF_step HAt.out, ← HLb.out, HX.out, HY.out])
        have hd : decide (x > y) = false := by simpa using hxy
        cases lb
        · by_cases hq : x < y
          · have hdq : decide (x < y) = true := by simpa using hq
            have HLt3 : Hid (true = ltF (f.take (k + 1)) xs ys) := Lib.hid (by rw [HLt2.out, hdq]; rfl)
            clear HLt2
            go_wp2
            go_quiet (fail)
            clear hd hxy
            go_wp2
            go_quiet (fail)
            go_wp2
            go_roundw
            case rel => exact ⟨k + 1, true, by omega, by go_num, rfl, HLt3.out, HLe2.out, by first | exact ⟨_, rfl⟩ | (rw [World.drewN_drewN]; exact ⟨_, rfl⟩) | (rw [World.drewN_drewN, World.drewN_drewN]; exact ⟨_, rfl⟩)⟩
            case measure => simp [intOf] <;> omega
          · have hdq : decide (x < y) = false := by simpa using hq
            have HLt3 : Hid (false = ltF (f.take (k + 1)) xs ys) := Lib.hid (by rw [HLt2.out, hdq]; rfl)
            clear HLt2
            go_wp2
            go_quiet (fail)
            clear hd hxy
            go_wp2
            go_quiet (fail)
            go_wp2
            go_roundw
            case rel => exact ⟨k + 1, false, by omega, by go_num, rfl, HLt3.out, HLe2.out, by first | exact ⟨_, rfl⟩ | (rw [World.drewN_drewN]; exact ⟨_, rfl⟩) | (rw [World.drewN_drewN, World.drewN_drewN]; exact ⟨_, rfl⟩)⟩
            case measure => simp [intOf] <;> omega
        · have HLt3 : Hid (true = ltF (f.take (k + 1)) xs ys) := Lib.hid (by rw [HLt2.out]; rfl)
          clear HLt2
          go_wp2
          go_quiet (fail)
          clear hd hxy
          go_wp2
          go_quiet (fail)
          go_wp2
          go_roundw
          case rel => exact ⟨k + 1, true, by omega, by go_num, rfl, HLt3.out, HLe2.out, by first | exact ⟨_, rfl⟩ | (rw [World.drewN_drewN]; exact ⟨_, rfl⟩) | (rw [World.drewN_drewN, World.drewN_drewN]; exact ⟨_, rfl⟩)⟩
          case measure => simp [intOf] <;> omega
    · obtain rfl : k = n3 := by omega
      have HR : Hid (belF f xs ys = lb) := Lib.hid (by
        have h1 := HLb.out
        have h2 := HLe.out
        rw [ptake_all HL3.out] at h1 h2
        unfold belF
        rw [h2, ← h1]
        rfl)
      go_wp2
      go_ret
      exact ⟨by rw [HR.out]; first | done | rfl, _, rfl⟩
/-! Corners. -/
theorem corn_snoc : ∀ {l : List Dt}, l ≠ [] → ∀ d : Dt, cornD (l ++ [d]) = minL (cornD l) d.2
  | [], h, _ => absurd rfl h
  | x :: r, _, d => by
    show (r ++ [d]).foldl (fun c y => minL c y.2) x.2 = minL (r.foldl (fun c y => minL c y.2) x.2) d.2
    rw [List.foldl_append]
    rfl
theorem minL_len {a b : List Int} (h : a.length = 3) (h' : b.length = 3) : (minL a b).length = 3 := by
  unfold minL
  rw [List.length_zipWith, h, h']
  rfl
theorem corn_len {l : List Dt} : l ≠ [] → (∀ d ∈ l, d.2.length = 3) → (cornD l).length = 3 := by
  refine snoc_ind (P := fun l : List Dt => l ≠ [] → (∀ d ∈ l, d.2.length = 3) → (cornD l).length = 3) (fun h => absurd rfl h) (fun l d ih _ hd => ?_) l
  by_cases h : l = []
  · subst h
    exact hd d (by simp)
  · rw [corn_snoc h]
    exact minL_len (ih h fun x hx => hd x (by simp [hx])) (hd d (by simp))
/-- The first j values are the lesser ones already. -/
def mixL (a b : List Int) (j : Nat) : List Int := (minL a b).take j ++ a.drop j
theorem mixL_zero (a b : List Int) : mixL a b 0 = a := by simp [mixL]
theorem mixL_all {a b : List Int} (h : a.length = 3) (h' : b.length = 3) : mixL a b 3 = minL a b := by
  unfold mixL
  rw [List.take_of_length_le (by rw [minL_len h h']; exact Nat.le_refl _), List.drop_eq_nil_of_le (by omega), List.append_nil]
theorem mixL_len {a b : List Int} (h : a.length = 3) (h' : b.length = 3) {j : Nat} (hj : j ≤ 3) : (mixL a b j).length = 3 := by
  unfold mixL
  rw [List.length_append, List.length_take, minL_len h h', List.length_drop, h]
  omega
theorem mixL_at {a b : List Int} (h : a.length = 3) (h' : b.length = 3) {j : Nat} {x : Int} (ha : a[j]? = some x) (hj : j < 3) : (mixL a b j)[j]? = some x := by
  unfold mixL
  rw [List.getElem?_append_right (by rw [List.length_take, minL_len h h']; omega), List.length_take, minL_len h h', List.getElem?_drop]
  rw [show j + (j - min j 3) = j by omega]
  exact ha
theorem mixL_set {a b : List Int} (h : a.length = 3) (h' : b.length = 3) {j : Nat} {x y : Int} (ha : a[j]? = some x) (hb : b[j]? = some y) (hj : j < 3) : (mixL a b j).set j (min x y) = mixL a b (j + 1) := by
  have hm : (minL a b)[j]? = some (min x y) := by
    unfold minL
    rw [List.getElem?_zipWith, ha, hb]
  have hd : a.drop j = x :: a.drop (j + 1) := by exact List.drop_eq_getElem?_toList_append ▸ (by rw [ha]; rfl)
  have hl : ((minL a b).take j).length = j := by rw [List.length_take, minL_len h h']; omega
  unfold mixL
  rw [hd, ptake_at hm, List.set_append_right _ _ (by omega), hl, Nat.sub_self]
  simp
theorem ownI_set {w : World} {B g n c k : Nat} {l : List Int} {v : Int} (h : OwnI w B (.slice (some ⟨g, 0, none⟩) n c) l) (hk : k < l.length) : OwnI (w.setCell ⟨g, k, none⟩ (.int .i64 v)) B (.slice (some ⟨g, 0, none⟩) n c) (l.set k v) := by
  rcases ownI_row h with ⟨e, _⟩ | ⟨g', cap, f, e, hB, hle, hcap, hr, hf⟩
  · cases e
  · injection e with e1 e2 e3
    injection e1 with e1
    injection e1 with e1
    subst e1 e2 e3
    refine ownI_of_row hB (by simp) hle hcap (World.rowIs.set hr k (.int .i64 v)) fun j hj => ?_
    have h1 := hf j (by simpa using hj)
    rw [List.getElem?_map] at h1 ⊢
    rw [List.getElem?_set]
    by_cases e : k = j
    · subst e
      rw [if_pos rfl, if_pos hk, if_pos rfl]
      rfl
    · rw [if_neg e, if_neg (fun h => e h.symm)]
      exact h1
theorem min_go (a b : Int) : (if b < a then b else a) = min a b := by
  split <;> omega
set_option maxRecDepth 20000 in
set_option maxHeartbeats 3200000 in
theorem sCorner (w : World) (B : Nat) (A : Option Addr) (n c : Nat) (its : List It) (hi : Items w B A n its) (hP : ∀ u ∈ its, IsP u.dat) (hB : B ≤ w.heap.size) (h0 : 0 < n) (hn : n ≤ 1048576) :
    Calls Tryz.prog 28 #[.slice A n c] w fun e w' => (∃ v, e = .returned v ∧ OwnI w' w.heap.size v (cornD (its.map It.dat))) ∧ Below w.heap.size w w' := by
  have HX := Lib.hid hi
  have HP := Lib.hid hP
  have HXn := Lib.hid hi.1
  clear hi hP
  obtain ⟨b, off, u, rfl, hb, hat, -, hc1, hxu⟩ := HX.out.at 0 h0
  rw [Nat.zero_mul, Nat.add_zero] at hc1
  have pu := HP.out u (mem_of_at hat)
  have hun : u.n = 3 := hxu.1.symm.trans pu.2.2
  have H0 : Hid (Below w.heap.size w (w.alloc (.cells #[] 3))) := Lib.hid ((Below.refl _ w).alloc (Nat.le_refl _) _)
  have hw1 : (w.alloc (.cells #[] 3)).cell? ⟨b, off + 1, none⟩ = some (.slice u.A u.n u.c) := (H0.out.cell (p := ⟨b, off + 1, none⟩) (Nat.lt_of_lt_of_le hb hB)).trans hc1
  obtain ⟨v1, w1, hr1, ho1, hg1, -⟩ := run_spreadI (ty := 23) (c := u.c) (OwnI.empty w w.heap.size (Nat.le_refl _)) (hxu.below (H0.out.mono hB)) (by simp <;> omega) (by simp)
  have HB1 : Hid (Below w.heap.size w w1) := Lib.hid (H0.out.grown hg1 (by simp) (by intro k hk; simp [Value.ownBlock] at hk; omega))
  have HC1 : Hid (cornD ((its.take 1).map It.dat) = u.xs) := Lib.hid (by
    have h := take_at hat
    rw [Nat.zero_add] at h
    rw [h]
    rfl)
  have HO1 : Hid (OwnI w1 w.heap.size v1 (cornD ((its.take 1).map It.dat))) := Lib.hid (by rw [HC1.out]; simpa using ho1)
  have HLn : Hid (∀ k, 0 < k → (cornD ((its.take k).map It.dat)).length = 3) := Lib.hid fun k hk => corn_len (fun e => by
    have h1 := congrArg List.length e
    rw [List.length_map, List.length_take, HXn.out] at h1
    simp at h1
    omega) (fun d hd => by
      obtain ⟨x, hx, rfl⟩ := List.mem_map.1 hd
      exact (HP.out x (List.mem_of_mem_take hx)).2.2)
  obtain ⟨g, cap, rfl⟩ : ∃ g cap, v1 = .slice (some ⟨g, 0, none⟩) 3 cap := by
    rcases ownI_row HO1.out with ⟨-, e⟩ | ⟨g, cap, f, e, -⟩
    · have h1 := HLn.out 1 (by decide)
      rw [e] at h1
      cases h1
    · exact ⟨g, cap, by rw [e, HLn.out 1 (by decide)]⟩
  rw [hun] at hr1
  clear ho1 hg1 hxu pu hat hc1 HC1
  go_enter Tryz.func28, Tryz.ntmps28
  go_wp2_with (at_builtin; refine Go.Lib.wpList_append_run_sl _ (by rfl) (.tmp 6) (.tmp 10) 23 (by rfl) _ _ (by rfl) (by rfl) hr1 (stop_at ?_))
  intro _
  clear hr1 hw1
  go_wp2
  go_loopw [4] (fun iv wr => ∃ k : Nat, 0 < k ∧ k ≤ n ∧ iv = .int .i64 k ∧ OwnI wr w.heap.size (.slice (some ⟨g, 0, none⟩) 3 cap) (cornD ((its.take k).map It.dat)) ∧ Below w.heap.size w wr) (fun iv _ => n - (intOf iv).toNat)
  case atStart => exact ⟨1, by decide, h0, rfl, HO1.out, HB1.out⟩
  case round =>
    obtain ⟨k, hk0, hk, rfl, hown, hbel⟩ := hrel
    have HO := Lib.hid hown
    have HB := Lib.hid hbel
    clear hown
    by_cases hlt : k < n
    · obtain ⟨b', off', x, hbo, -, hat, -, hc1, hxx⟩ := HX.out.at k hlt
      obtain ⟨rfl, rfl⟩ : b = b' ∧ off = off' := by injection hbo with h; injection h with h2 h3; exact ⟨h2, h3⟩
      have px := HP.out x (mem_of_at hat)
      have hbw : b < w.heap.size := Nat.lt_of_lt_of_le hb hB
      have HC := Lib.hid hc1
      have HXx := Lib.hid hxx
      have HPx := Lib.hid px
      have HT : Hid (cornD ((its.take (k + 1)).map It.dat) = minL (cornD ((its.take k).map It.dat)) x.xs) := Lib.hid (by
        rw [take_at hat, List.map_append]
        exact corn_snoc (fun e => by
          have h1 := congrArg List.length e
          rw [List.length_map, List.length_take, HXn.out] at h1
          simp at h1
          omega) x.dat)
      have hxl : x.xs.length = 3 := px.2.2
      have hxn : x.n = 3 := hxx.1.symm.trans hxl
      have hCl := HLn.out k hk0
      generalize cornD ((its.take k).map It.dat) = C at *
      have hlt' : (k : Int) < (n : Int) := by omega
      have hk0' : (0 : Int) ≤ (k : Int) := by omega
      clear hbo hat hc1 hxx px hbel
      go_wp2
      go_loopw [5] (fun jv wr2 => ∃ j : Nat, j ≤ 3 ∧ jv = .int .i64 j ∧ OwnI wr2 w.heap.size (.slice (some ⟨g, 0, none⟩) 3 cap) (mixL C x.xs j) ∧ Below w.heap.size w wr2) (fun jv _ => 3 - (intOf jv).toNat)
      case atStart => exact ⟨0, by decide, rfl, by rw [mixL_zero]; exact HO.out, HB.out⟩
      case round =>
        obtain ⟨j, hj, rfl, hown, hbel⟩ := hrel
        have HO2 := Lib.hid hown
        have HB2 := Lib.hid hbel
        clear hown
        by_cases hlj : j < 3
        · obtain ⟨b1, o1, hA1, hb1, hn1, hc1⟩ := field_of HXx.out HPx.out hlj
          obtain ⟨-, -, -, g', e, hgB, hgl, hcell⟩ := ownI_cells HO2.out (by decide)
          cases e
          obtain ⟨y, hy⟩ : ∃ y, C[j]? = some y := ⟨_, List.getElem?_eq_getElem (by omega)⟩
          obtain ⟨hq1, hq2⟩ := hcell j y (mixL_at hCl hxl hy hlj)
          have hxj : x.xs[j]? = some (fval x j) := by
            unfold fval
            rw [List.getD_eq_getElem?_getD, Int.toNat_natCast, List.getElem?_eq_getElem (by omega)]
            rfl
          have HS := Lib.hid (mixL_set hCl hxl hy hxj hlj)
          have HM := Lib.hid (mixL_len (a := C) (b := x.xs) hCl hxl hj)
          generalize fval x j = z at *
          have f1 : wr.cell? ⟨b, off + k * 2 + 1, none⟩ = some (.slice x.A x.n x.c) := (hbel.cell (p := ⟨b, off + k * 2 + 1, none⟩) hbw).trans HC.out
          have f2 : wr.cell? ⟨b1, o1 + j, none⟩ = some (.int .i64 z) := (hbel.cell (p := ⟨b1, o1 + j, none⟩) (Nat.lt_of_lt_of_le hb1 hB)).trans hc1
          rw [hA1, hxn] at f1
          have hj3 : (j : Int) < 3 := by omega
          have hj0 : (0 : Int) ≤ (j : Int) := by omega
          have hcp : (3 : Nat) ≤ cap := by
            rcases ownI_row HO2.out with ⟨e, -⟩ | ⟨_, _, _, e, _, h2, _⟩
            · cases e
            · injection e with _ _ e3
              rw [HM.out] at h2
              omega
          clear hcell hy hxj hc1 hbel hA1 hb1 hn1
          go_wp2
          go_region
          all_goals go_wp2
          all_goals go_roundw
          case rel => exact ⟨j + 1, by omega, by go_num, by first | (rw [← HS.out]; exact ownI_set HO2.out (by rw [HM.out]; omega)) | (rw [← HS.out, ← min_go]; exact ownI_set HO2.out (by rw [HM.out]; omega)), (HB2.out.setCell (p := ⟨g, j, none⟩) hgB _).drew⟩
          case measure => simp [intOf] <;> omega
        · obtain rfl : j = 3 := by omega
          have HO3 : Hid (OwnI wr w.heap.size (.slice (some ⟨g, 0, none⟩) 3 cap) (cornD ((its.take (k + 1)).map It.dat))) := Lib.hid (by rw [HT.out, ← mixL_all hCl hxl]; exact HO2.out)
          clear hbel
          go_wp2
          go_roundw
          case rel => exact ⟨k + 1, by omega, by omega, by go_num, HO3.out, HB2.out⟩
          case measure => simp [intOf] <;> omega
    · obtain rfl : k = n := by omega
      have HO3 : Hid (OwnI wr w.heap.size (.slice (some ⟨g, 0, none⟩) 3 cap) (cornD (its.map It.dat))) := Lib.hid (by have h := HO.out; rwa [take_all HXn.out] at h)
      go_wp2
      go_ret
      exact ⟨⟨_, rfl, HO3.out⟩, HB.out⟩
end Go.Proofs.YtnbgmiiknndleaaGreat.num
namespace Go.Proofs.YtnbgmiiknndleaaGreat.num
set_option maxRecDepth 20000
open Go.Sort
set_option linter.unusedVariables false
set_option linter.unusedSimpArgs false

section
variable {α : Type} [Inhabited α]
theorem arr_at {o r : List α} {x : α} : (o ++ x :: r).toArray[o.length]! = x := by
  simp
theorem swp_list (o r : List α) (x y : α) : (swp (o ++ y :: x :: r).toArray (o.length + 1) o.length).toList = o ++ x :: y :: r := by
  have h1 : (o ++ y :: x :: r).toArray[o.length]! = y := by simp
  have h2 : (o ++ y :: x :: r).toArray[o.length + 1]! = x := by
    simp
  unfold swp
  rw [h1, h2]
  simp only [List.setIfInBounds_toArray, List.set_append]
  have h3 : ¬ o.length + 1 < o.length := by omega
  simp [h3]
theorem insInner_list (lt : α → α → Bool) (x : α) (o : List α) : ∀ r : List α, (insInner lt 0 o.length (o ++ x :: r).toArray).toList = insE lt x o ++ r := by
  refine snoc_ind (P := fun o => ∀ r : List α, (insInner lt 0 o.length (o ++ x :: r).toArray).toList = insE lt x o ++ r) (fun r => ?_) (fun o y ih r => ?_) o
  · simp [insInner, insE_nil]
  · have h1 : (o ++ [y] ++ x :: r).toArray[o.length]! = y := by simp
    have h2 : (o ++ [y] ++ x :: r).toArray[o.length + 1]! = x := by simp
    rw [List.length_append, List.length_singleton, insInner, h1, h2, insE_snoc]
    by_cases h : lt x y = true
    · rw [h]
      simp only [Nat.succ_pos, decide_true, Bool.and_self, ↓reduceIte, gt_iff_lt]
      have hs := swp_list o r x y
      have e : swp (o ++ [y] ++ x :: r).toArray (o.length + 1) o.length = (o ++ x :: y :: r).toArray := by
        rw [← hs]; simp
      rw [e, ih (y :: r)]
      simp
    · rw [Bool.not_eq_true] at h
      rw [h]
      simp
theorem insOuter_list (lt : α → α → Bool) : ∀ r o : List α, (insOuter lt 0 (o.length + r.length) o.length (o ++ r).toArray).toList = srt lt o r
  | [], o => by
    rw [insOuter_stop _ _ _ _ _ (by simp), srt]
    simp
  | x :: r, o => by
    rw [insOuter_go _ _ _ _ _ (by simp), srt]
    have h1 := insInner_list lt x o r
    have e : insInner lt 0 o.length (o ++ x :: r).toArray = (insE lt x o ++ r).toArray := by rw [← h1]
    have hl : (insE lt x o).length = o.length + 1 := by rw [(insE_perm lt x o).length_eq]; rfl
    rw [e, show o.length + (x :: r).length = (insE lt x o).length + r.length by rw [hl, List.length_cons]; omega, ← hl]
    exact insOuter_list lt r _
theorem insertionSort_list (lt : α → α → Bool) (l : List α) : (insertionSort lt l.toArray 0 l.length).toList = sortL lt l := by
  unfold insertionSort sortL
  cases l with
  | nil => rw [insOuter_stop _ _ _ _ _ (by simp)]; rfl
  | cons x r =>
    have h := insOuter_list lt r [x]
    rw [srt, insE_nil]
    rw [← h]
    congr 1
    simp [Nat.add_comm]
end
end Go.Proofs.YtnbgmiiknndleaaGreat.num
namespace Go.Proofs.YtnbgmiiknndleaaGreat.num
set_option maxRecDepth 20000
open Go.Sort Go.Proofs Go.RowKit Go.Shelf
set_option linter.unusedVariables false
set_option linter.unusedSimpArgs false

def sortRen : Go.Shelf.Ren := ⟨fun | 20 => 88 | n => n, fun | 0 => 0 | 3 => 3 | 4 => 4 | 22 => 45 | 24 => 61 | 25 => 76 | n => n, fun | n => n⟩
theorem sortLays : Go.Proofs.SlLaysF0.n20 Tryz.prog sortRen := {
  mixed := by kernel_rfl
  f20 := ⟨Tryz.f88.name, by decide, Tryz.func88.trans (congrArg some (by kernel_rfl))⟩
  t0 := Tryz.underlying0
  a0 := Tryz.isAgg0
  z0 := Tryz.sizeOf0
  v0 := Tryz.zeroValue0
  t3 := Tryz.underlying3
  a3 := Tryz.isAgg3
  z3 := Tryz.sizeOf3
  v3 := Tryz.zeroValue3
  t4 := Tryz.underlying4
  a4 := Tryz.isAgg4
  z4 := Tryz.sizeOf4
  v4 := Tryz.zeroValue4
  t22 := Tryz.underlying45
  a22 := Tryz.isAgg45
  z22 := Tryz.sizeOf45
  v22 := Tryz.zeroValue45
  t25 := Tryz.underlying76
  a25 := Tryz.isAgg76
  z25 := Tryz.sizeOf76
  v25 := Tryz.zeroValue76 }

section
variable {α : Type} [Inhabited α] {enc : α → List Value} {k : Nat}
theorem flatK_list (hk : ∀ x, (enc x).length = k) (l : List α) : (flatK enc k l.toArray).toList = l.flatMap enc := by
  apply List.ext_getElem?
  intro j
  have hs : (flatK enc k l.toArray).toList.length = l.length * k := by simp
  have hs2 : (l.flatMap enc).length = l.length * k := fm_len hk l
  by_cases hj : j < l.length * k
  · have hk0 : 0 < k := by
      rcases Nat.eq_zero_or_pos k with h | h
      · subst h; simp at hj
      · exact h
    have hi : j / k < l.length := Nat.div_lt_of_lt_mul (by rwa [Nat.mul_comm] at hj)
    have hm : j % k < k := Nat.mod_lt _ hk0
    have he : j / k * k + j % k = j := Nat.div_add_mod' j k
    have hx : l[j / k]? = some l[j / k] := List.getElem?_eq_getElem hi
    have h1 := fm_at hk l (j / k) (j % k) _ hx hm
    rw [he] at h1
    rw [h1]
    have h2 : (enc l[j / k]).length = k := hk _
    have h3 : (enc l[j / k])[j % k]? = some ((enc l[j / k])[j % k]'(by rw [h2]; exact hm)) := List.getElem?_eq_getElem _
    rw [h3]
    simp only [flatK, Array.toList_map, List.getElem?_map, Array.toList_range]
    simp [hj, hi, getElem!_pos, h2, hm]
  · rw [List.getElem?_eq_none (by omega), List.getElem?_eq_none (by omega)]
theorem heap_sortedK {w : World} {g n : Nat} {os : Array Obj} {cur : Array Value} {e : TypeId} {fr : Nat × Nat} (d : Array α) (hb : w.heap[g]? = some (.cells cur e fr)) :
    (sortWorldK enc k w g 0 n d os).heap[g]? = some (.cells (putCells id 0 (flatK enc k d) cur) e fr) := by
  have hg : g < w.heap.size := (Array.getElem?_eq_some_iff.1 hb).1
  unfold sortWorldK putRowK
  rw [heap_grow_old _ _ (by simpa using hg)]
  simp [putRow, mapBlock, Sort.ahead, Array.getElem?_modify, hb, onCells]
theorem grownBy_sortedK {w : World} {g n : Nat} {os : Array Obj} (d : Array α) : w.grownBy (sortWorldK enc k w g 0 n d os) (some g) := by
  refine ⟨rfl, rfl, rfl, by simp [sortWorldK, putRowK], fun j hj hne => ?_⟩
  unfold sortWorldK putRowK
  rw [heap_grow_old _ _ (by simpa using hj)]
  have : g ≠ j := fun e => hne (by rw [e])
  simp [putRow, mapBlock, Sort.ahead, Array.getElem?_modify, this]
theorem take_putK (cur F : Array Value) (h : F.size ≤ cur.size) : (putCells id 0 F cur).toList.take F.size = F.toList := by
  apply List.ext_getElem?
  intro j
  by_cases hj : j < F.size
  · rw [List.getElem?_take_of_lt hj, Array.getElem?_toList]
    simp [putCells, hj, show j < cur.size by omega]
  · rw [List.getElem?_take_eq_none (by omega), List.getElem?_eq_none (by simp; omega)]
theorem holdsK_block {w : World} {g : Nat} {cur : Array Value} {e : TypeId} {l : List α} (hk : ∀ x, (enc x).length = k) (hb : w.heap[g]? = some (.cells cur e (0, 0))) (ht : cur.toList.take (l.length * k) = l.flatMap enc) : HoldsK enc k w g 0 l.toArray := by
  intro j hj
  have hj' : j < l.length * k := by simpa using hj
  refine ⟨?_, by simp [World.frozen?, hb]⟩
  have h1 : (cur.toList.take (l.length * k))[j]? = (flatK enc k l.toArray).toList[j]? := by rw [ht, flatK_list hk]
  rw [List.getElem?_take_of_lt hj'] at h1
  simp only [World.cell?, hb, Nat.zero_add]
  simp only [Option.isSome_none, Bool.false_eq_true, if_false]
  rw [← Array.getElem?_toList, h1, Array.getElem?_toList]
  rw [getElem!_pos (flatK enc k l.toArray) j hj, Array.getElem?_eq_getElem hj]
  rfl
end
/-- -1, 0 or 1. -/
def cmpI (x y : Int) : Int := if x < y then -1 else if y < x then 1 else 0
theorem cmpI_lt (x y : Int) : decide (cmpI x y < 0) = decide (x < y) := by
  unfold cmpI
  rw [Bool.eq_iff_iff, decide_eq_true_iff, decide_eq_true_iff]
  repeat' split
  all_goals omega
def ltK (key : It → Int) (x y : It) : Bool := decide (key x < key y)
set_option maxRecDepth 20000 in
set_option maxHeartbeats 1000000 in
theorem ins_own (w : World) (B p : Nat) (A : Option Addr) (n c : Nat) (l : List It) (h : OwnG 61 (ctCells p) 3 w B (.slice A n c) l) (hn : n ≤ 1048576) (Q : It → Prop) (hQ : ∀ x ∈ l, Q x) (key : It → Int) (g : Nat) (cb : Array Value)
    (eg : ∀ args w, (callFunc g args).run Tryz.prog w = .ok (.enter g args) w)
    (hcmp : ∀ W, (∀ k, k < w.heap.size → (Value.slice A n c).ownBlock ≠ some k → W.heap[k]? = w.heap[k]?) → w.heap.size ≤ W.heap.size → ∀ x y, Q x → Q y → Calls Tryz.prog g (#[ctV p x, ctV p y] ++ cb) W fun e w' => e = .returned (.int .i64 (cmpI (key x) (key y))) ∧ ∃ q os', w' = grow (W.drewN q) os') :
    Calls Tryz.prog 88 #[.slice A n c, .int .i64 0, .int .i64 n, .func (.func g) #[] cb] w fun e w' => e = .returned (.tuple #[]) ∧ OwnG 61 (ctCells p) 3 w' B (.slice A n c) (sortL (ltK key) l) ∧ w.grownBy w' (Value.slice A n c).ownBlock := by
  by_cases h0 : n = 0
  · subst h0
    have hl : l = [] := by
      obtain ⟨A', c', e, _⟩ := h.shape
      injection e with _ e _
      exact List.eq_nil_of_length_eq_zero e.symm
    subst hl
    have HO := Lib.hid h
    clear h hcmp hQ
    go_enter Tryz.func88, Tryz.ntmps88
    go_wp2
    go_loopw [8] (fun i wr => i = .int .i64 1 ∧ wr = w) (fun _ _ => 0)
    case atStart => exact ⟨rfl, rfl⟩
    case round =>
      obtain ⟨rfl, rfl⟩ := hrel
      go_wp2
      go_end0
      exact ⟨rfl, HO.out, ⟨rfl, rfl, rfl, Nat.le_refl _, fun _ _ _ => rfl⟩⟩
  · rcases h.2 with ⟨e, hl⟩ | ⟨b, cap, cur, e, hB, hg, h1, h2, h3, h4⟩
    · injection e with e1 e2 e3
      exact absurd e2 h0
    · injection e with e1 e2 e3
      subst e1 e2 e3
      obtain ⟨x0, r0, hx0⟩ : ∃ x r, l = x :: r := by
        cases l with
        | nil => exact absurd rfl h0
        | cons x r => exact ⟨x, r, rfl⟩
      letI : Inhabited {x : It // Q x} := ⟨⟨x0, hQ x0 (by rw [hx0]; simp)⟩⟩
      let l' : List {x : It // Q x} := l.pmap Subtype.mk hQ
      have hl' : l'.map Subtype.val = l := by simp [l', List.map_pmap]
      have hlen : l'.length = l.length := by simp [l']
      let enc : {x : It // Q x} → List Value := fun x => ctCells p x.1
      have hk : ∀ x, (enc x).length = 3 := fun x => ctCells_len p x.1
      have hfm : ∀ m : List {x : It // Q x}, m.flatMap enc = (m.map Subtype.val).flatMap (ctCells p) := fun m => by simp [enc, List.flatMap_map]
      have hH : HoldsK enc 3 w b 0 l'.toArray := holdsK_block hk hg (by rw [hlen, hfm, hl']; exact h4)
      have hblk : b < w.heap.size := (Array.getElem?_eq_some_iff.1 hg).1
      have hcm : CmpLays Tryz.prog g cb enc 3 (fun x y => cmpI (key x.1) (key y.1)) b 0 l'.toArray.size w := fun m os dk hdk x y => by
        refine hcmp _ (fun k hk hne => ?_) ?_ x.1 y.1 x.2 y.2
        · exact (grownBy_sortedK (enc := enc) (k := 3) (w := w) (g := b) (n := m) (os := os) dk).block k hk (fun e => hne e.symm)
        · exact (grownBy_sortedK (enc := enc) (k := 3) (w := w) (g := b) (n := m) (os := os) dk).size
      have hcon := AnyQ.insertionSortCmpFunc (ρ := sortRen) sortLays 3 Tryz.isAgg61 Tryz.sizeOf61 enc hk (fun x => ctCells_one p x.1) (fun x y => cmpI (key x.1) (key y.1)) g cb b 0 c 0 l'.toArray.size l'.toArray w eg hcm hH hblk (Nat.zero_le _) (Nat.le_refl _) (by simp only [List.size_toArray, hlen]; omega)
      have hsz : l'.toArray.size = l.length := by simp [hlen]
      rw [hsz] at hcon
      refine hcon.mono ?_
      rintro e w' ⟨rfl, m, os, rfl⟩
      refine ⟨rfl, ?_, grownBy_sortedK _⟩
      have hlt : ltOf (fun x y : {x : It // Q x} => cmpI (key x.1) (key y.1)) = fun x y => ltK key x.1 y.1 := by
        funext x y
        exact cmpI_lt _ _
      rw [hlt]
      have hs : (Sort.insertionSort (fun x y : {x : It // Q x} => ltK key x.1 y.1) l'.toArray 0 l.length) = (sortL (fun x y : {x : It // Q x} => ltK key x.1 y.1) l').toArray := by
        rw [← hlen, ← insertionSort_list]
      rw [hs]
      have hsm : (sortL (fun x y : {x : It // Q x} => ltK key x.1 y.1) l').map Subtype.val = sortL (ltK key) l := by
        rw [sortL_map (lt' := ltK key) (fun x _ y _ => rfl), hl']
      have hln : (sortL (ltK key) l).length = l.length := sortL_len _ _
      have hF : (flatK enc 3 (sortL (fun x y : {x : It // Q x} => ltK key x.1 y.1) l').toArray).toList = (sortL (ltK key) l).flatMap (ctCells p) := by
        rw [flatK_list hk, hfm, hsm]
      have hFs : (flatK enc 3 (sortL (fun x y : {x : It // Q x} => ltK key x.1 y.1) l').toArray).size = l.length * 3 := by
        rw [size_flatK, List.size_toArray, sortL_len, hlen]
      unfold OwnG
      rw [hln]
      refine ⟨by rw [fm_len (ctCells_len p), hln], .inr ⟨b, c, _, rfl, hB, heap_sortedK _ hg, h1, h2, by simp [putCells, h3], ?_⟩⟩
      rw [← hF, ← hFs]
      exact take_putK _ _ (by rw [hFs, h3]; omega)
end Go.Proofs.YtnbgmiiknndleaaGreat.num
namespace Go.Proofs.YtnbgmiiknndleaaGreat.num
set_option maxRecDepth 20000
open Go.RowKit
set_option linter.unusedVariables false
set_option linter.unusedSimpArgs false

/-- A slice of valid items that can be read. -/
def ItsV (w : World) (v : Value) (l : List It) : Prop := ∃ A n c, v = .slice A n c ∧ Items w w.heap.size A n l ∧ ∀ u ∈ l, IsP u.dat
theorem Items.now {w w' : World} {A : Option Addr} {n : Nat} {l : List It} (h : Items w w.heap.size A n l) (hb : Below w.heap.size w w') : Items w' w'.heap.size A n l := (h.below hb).up hb.size
theorem ItsV.below {w w' : World} {v : Value} {l : List It} (h : ItsV w v l) (hb : Below w.heap.size w w') : ItsV w' v l := by
  obtain ⟨A, n, c, rfl, h1, h2⟩ := h
  exact ⟨A, n, c, rfl, h1.now hb, h2⟩
theorem Items.ofr {w : World} {B : Nat} {A : Option Addr} {n : Nat} {l : List It} (h : ReadG itCs 2 w B A n l) (hx : ∀ u ∈ l, Ints w B u.A u.n u.xs) : Items w B A n l := by
  refine ⟨h.len, fun k hk => ?_⟩
  obtain ⟨b, off, hA, hb, hc⟩ := h.at' k l[k] (List.getElem?_eq_getElem hk)
  exact ⟨b, off, hA, hb, hc 0 _ rfl, hc 1 _ rfl, hx _ (List.getElem_mem hk)⟩
theorem ItsV.own {w : World} {B : Nat} {v : Value} {l : List It} (h : OwnTs w B v l) (hx : ∀ u ∈ l, Ints w w.heap.size u.A u.n u.xs ∧ IsP u.dat) : ItsV w v l := by
  obtain ⟨A, c, rfl, -, -⟩ := h.shape
  exact ⟨A, _, c, rfl, Items.ofr (h.read itCs_len) fun u hu => (hx u hu).1, fun u hu => (hx u hu).2⟩
theorem Items.all {w : World} {B : Nat} {A : Option Addr} {n : Nat} {l : List It} (h : Items w B A n l) {u : It} (hu : u ∈ l) : Ints w B u.A u.n u.xs := by
  obtain ⟨k, hk, rfl⟩ := List.getElem_of_mem hu
  obtain ⟨b, off, ha, hb, h1, h2, h3⟩ := h.2 k hk
  exact h3
def BoxOut (f : List Int) (N d : Nat) (ds : List Dt) (s : List Dt × Nat) (w : World) (e : Ending) (w' : World) : Prop :=
  (∃ v found, e = .returned (.tuple #[v, .int .i64 (((boxD f N d ds s).2 : Nat) : Int)]) ∧ ItsV w' v found ∧ found.map It.dat = (boxD f N d ds s).1) ∧ Below w.heap.size w w'
theorem below_q (W : World) (B : Nat) (x y : It) (A3 : Option Addr) (n3 c3 : Nat) (f : List Int) (ys : List Int) (A2 : Option Addr) (n2 c2 : Nat) (hx : Ints W B x.A x.n x.xs) (hy : Ints W B A2 n2 ys) (px : IsP x.dat) (py : ys.length = 3) (h3 : Ints W B A3 n3 f) (hf : FL f) (m : Nat) :
    Calls Tryz.prog 29 #[.slice x.A x.n x.c, .slice A2 n2 c2, .slice A3 n3 c3] (W.drewN m) fun e w' => e = .returned (.bool (belF f x.xs ys)) ∧ ∃ m', w' = W.drewN m' :=
  (sBelow (W.drewN m) B x.A A2 A3 x.n x.c n2 c2 n3 c3 x.xs ys f hx hy h3 px.2.2 py hf).mono fun e w' ⟨he, k, hw⟩ => ⟨he, m + k, by rw [hw, World.drewN_drewN]⟩
theorem below_q2 (W : World) (B : Nat) (x y : It) (A3 : Option Addr) (n3 c3 : Nat) (f : List Int) (hx : Ints W B x.A x.n x.xs) (hy : Ints W B y.A y.n y.xs) (px : IsP x.dat) (py : IsP y.dat) (h3 : Ints W B A3 n3 f) (hf : FL f) (m : Nat) :
    Calls Tryz.prog 29 #[.slice x.A x.n x.c, .slice y.A y.n y.c, .slice A3 n3 c3] (W.drewN m) fun e w' => e = .returned (.bool (belF f x.xs y.xs)) ∧ ∃ m', w' = W.drewN m' :=
  (sBelow (W.drewN m) B x.A y.A A3 x.n x.c y.n y.c n3 c3 x.xs y.xs f hx hy h3 px.2.2 py.2.2 hf).mono fun e w' ⟨he, k, hw⟩ => ⟨he, m + k, by rw [hw, World.drewN_drewN]⟩
theorem below_q3 (W : World) (B : Nat) (x y : It) (A3 : Option Addr) (n3 c3 : Nat) (f : List Int) (hx : Ints W B x.A x.n x.xs) (hy : Ints W B y.A y.n y.xs) (px : IsP x.dat) (py : IsP y.dat) (h3 : Ints W B A3 n3 f) (hf : FL f) (m n : Nat) :
    Calls Tryz.prog 29 #[.slice x.A x.n x.c, .slice y.A y.n y.c, .slice A3 n3 c3] (W.drewN (m + n)) fun e w' => e = .returned (.bool (belF f x.xs y.xs)) ∧ ∃ n', w' = W.drewN (m + n') := by
  have h := below_q2 (W.drewN m) B x y A3 n3 c3 f hx hy px py h3 hf n
  rw [World.drewN_drewN] at h
  exact h.mono fun e w' ⟨he, k, hw⟩ => ⟨he, k, by rw [hw, World.drewN_drewN]⟩
/-- One item more is looked at, in the model. -/
theorem look_step {f : List Int} {fl : List It} {s : List Dt × Nat} {x : It} {k : Nat} (h : fl.map It.dat = s.1) (hk : k = s.2) : ((if fl.any (fun y => belF f y.xs x.xs) then fl else (fl.filter fun y => !belF f x.xs y.xs) ++ [x]).map It.dat, k + 1) = lookD f s x.dat := by
  unfold lookD
  rw [← h, hk]
  have e1 : (fl.map It.dat).any (fun y => belF f y.2 x.dat.2) = fl.any (fun y => belF f y.xs x.xs) := by rw [List.any_map]; rfl
  have e2 : (fl.map It.dat).filter (fun y => !belF f x.dat.2 y.2) = (fl.filter fun y => !belF f x.xs y.xs).map It.dat := by rw [List.filter_map]; rfl
  rw [e1, e2]
  split
  · rfl
  · rw [List.map_append]; rfl
theorem anyF_step {fl : List It} {j : Nat} {y : It} (h : fl[j]? = some y) (g : It → Bool) : (fl.take (j + 1)).any g = ((fl.take j).any g || g y) := by
  rw [take_at h, List.any_append]
  simp
theorem filF_step {fl : List It} {j : Nat} {y : It} (h : fl[j]? = some y) (g : It → Bool) : (fl.take (j + 1)).filter g = (fl.take j).filter g ++ (if g y then [y] else []) := by
  rw [take_at h, List.filter_append]
  congr 1
  cases hg : g y <;> simp [hg]
/-- What is sorted, and cut in two, in the model: by places. -/
def ordI (its : List It) (kk : Nat) : List It := sortL (ltK fun u => fval u kk) its
theorem ordI_at {its : List It} {kk j : Nat} {z : Int} (h : (ordZ (keyF its kk) its.length)[j]? = some z) : ∃ (i : Nat) (u : It), z = (i : Int) ∧ i < its.length ∧ its[i]? = some u ∧ (ordI its kk)[j]? = some u := by
  obtain ⟨i, rfl, hi⟩ := ordZ_at h
  refine ⟨i, its[i], rfl, hi, List.getElem?_eq_getElem hi, ?_⟩
  have e : (ordL (keyF its kk) its.length).map (fun i => its.getD i itZ) = ordI its kk := ordL_map itZ its (fun u => fval u kk)
  rw [← e, List.getElem?_map]
  unfold ordZ at h
  rw [List.getElem?_map] at h
  obtain ⟨i', hi', e'⟩ := Option.map_eq_some_iff.1 h
  obtain rfl : i' = i := by omega
  rw [hi', Option.map_some, List.getD_eq_getElem?_getD, List.getElem?_eq_getElem hi]
  rfl
theorem ordI_len (its : List It) (kk : Nat) : (ordI its kk).length = its.length := sortL_len _ _
theorem ordI_half (its : List It) (kk : Nat) : halfF (kk : Int) (its.map It.dat) = (((ordI its kk).take (its.length / 2)).map It.dat, ((ordI its kk).drop (its.length / 2)).map It.dat) := by
  unfold halfF ordI
  rw [List.map_take, List.map_drop, List.length_map]
  have e : (sortL (ltK fun u => fval u kk) its).map It.dat = sortL (fun x y : Dt => decide (x.2.getD (Int.toNat (kk : Int)) 0 < y.2.getD (Int.toNat (kk : Int)) 0)) (its.map It.dat) := by
    rw [sortL_map (lt := ltK fun u => fval u kk) (lt' := fun x y : Dt => decide (x.2.getD (Int.toNat (kk : Int)) 0 < y.2.getD (Int.toNat (kk : Int)) 0))]
    intro x _ y _
    unfold ltK fval It.dat
    rfl
  rw [e]
theorem lows_step {l : List It} {j h : Nat} {x : It} (hx : l[j]? = some x) (hj : j < h) : l.take (min (j + 1) h) = l.take (min j h) ++ [x] ∧ (l.take (j + 1)).drop h = (l.take j).drop h := by
  have hl : j < l.length := (List.getElem?_eq_some_iff.1 hx).1
  refine ⟨?_, ?_⟩
  · rw [Nat.min_eq_left (by omega), Nat.min_eq_left (by omega), take_at hx]
  · rw [List.drop_eq_nil_of_le (by rw [List.length_take]; omega), List.drop_eq_nil_of_le (by rw [List.length_take]; omega)]
theorem highs_step {l : List It} {j h : Nat} {x : It} (hx : l[j]? = some x) (hj : ¬ j < h) : l.take (min (j + 1) h) = l.take (min j h) ∧ (l.take (j + 1)).drop h = (l.take j).drop h ++ [x] := by
  have hl : j < l.length := (List.getElem?_eq_some_iff.1 hx).1
  refine ⟨?_, ?_⟩
  · rw [Nat.min_eq_right (by omega), Nat.min_eq_right (by omega)]
  · rw [take_at hx, List.drop_append_of_le_length (by rw [List.length_take]; omega)]

set_option maxRecDepth 20000 in
set_option maxHeartbeats 12800000 in
theorem sBox (f : List Int) (hf : FL f) : ∀ (N : Nat) (w : World) (A : Option Addr) (n c : Nat) (its : List It) (_ : Items w w.heap.size A n its) (_ : ∀ u ∈ its, IsP u.dat) (_ : n ≤ N) (_ : n ≤ 16) (fA : Option Addr) (fn fc : Nat) (_ : Ints w w.heap.size fA fn f) (d : Nat) (_ : d + N ≤ 1048576)
    (A2 : Option Addr) (n2 c2 : Nat) (found : List It) (_ : Items w w.heap.size A2 n2 found) (_ : ∀ u ∈ found, IsP u.dat) (vis : Nat) (_ : n2 + n ≤ 64) (_ : vis + n ≤ 64),
    Calls Tryz.prog 17 #[.slice A n c, .slice fA fn fc, .int .i64 d, .slice A2 n2 c2, .int .i64 vis] w (BoxOut f N d (its.map It.dat) (found.map It.dat, vis) w) := by
  intro N
  induction N with
  | zero =>
    intro w A n c its hi hP hnN hn fA fn fc hfi d hd A2 n2 c2 found h2 hP2 vis hs1 hs2
    obtain rfl : n = 0 := by omega
    obtain rfl : its = [] := List.eq_nil_of_length_eq_zero hi.1
    have HV : Hid (ItsV w (.slice A2 n2 c2) found) := Lib.hid ⟨A2, n2, c2, rfl, h2, hP2⟩
    clear hi hP hfi h2 hP2
    go_enter Tryz.func17, Tryz.ntmps17
    go_wp2
    go_ret2
    exact ⟨⟨_, found, rfl, HV.out, rfl⟩, Below.refl _ _⟩
  | succ N ih =>
    intro w A n c its hi hP hnN hn fA fn fc hfi d hd A2 n2 c2 found h2 hP2 vis hs1 hs2
    have HIH := Lib.hid ih
    have HX := Lib.hid hi
    have HXn := Lib.hid hi.1
    have HP := Lib.hid hP
    have HFi := Lib.hid hfi
    have H2 := Lib.hid h2
    have H2n := Lib.hid h2.1
    have HP2 := Lib.hid hP2
    have HF := Lib.hid hf
    have hfn : fn ≤ 3 ∧ 0 < fn := by have h4 := hf.len; have h5 := hfi.1; omega
    have HFn := Lib.hid hfi.1
    clear ih hi hP hfi h2 hP2
    by_cases h0 : n = 0
    · subst h0
      obtain rfl : its = [] := List.eq_nil_of_length_eq_zero HXn.out
      have HV : Hid (ItsV w (.slice A2 n2 c2) found) := Lib.hid ⟨A2, n2, c2, rfl, H2.out, HP2.out⟩
      go_enter Tryz.func17, Tryz.ntmps17
      go_wp2
      go_ret2
      exact ⟨⟨_, found, by rw [List.map_nil, boxD_nil]; first | done | rfl, HV.out, by rw [List.map_nil, boxD_nil]; first | done | rfl⟩, Below.refl _ _⟩
    have h00 : ((n : Int) == 0) = false := by simp; omega
    have HCo := Lib.hid (sCorner w w.heap.size A n c its HX.out HP.out (Nat.le_refl _) (by omega) (by omega))
    have HNe : Hid (its.map It.dat ≠ []) := Lib.hid (fun e => by have h1 := congrArg List.length e; rw [List.length_map, HXn.out] at h1; exact h0 h1)
    have HCl : Hid ((cornD (its.map It.dat)).length = 3) := Lib.hid (corn_len HNe.out fun x hx => by obtain ⟨u, hu, rfl⟩ := List.mem_map.1 hx; exact (HP.out u hu).2.2)
    have HLn : Hid ((its.map It.dat).length = n) := Lib.hid (by rw [List.length_map]; exact HXn.out)
    obtain ⟨C, hC⟩ : ∃ C, cornD (its.map It.dat) = C := ⟨_, rfl⟩
    have HC := Lib.hid hC
    rw [hC] at HCo HCl
    clear hC
    go_enter Tryz.func17, Tryz.ntmps17
    go_wp2_with fail
    refine HCo.out.mono ?_
    rintro e w1 ⟨⟨v, rfl, ho⟩, hb1⟩
    obtain ⟨A5, n5, c5, rfl, hi5⟩ := ho.ints
    have HI5 := Lib.hid hi5
    have HB1 := Lib.hid hb1
    have HX1 := Lib.hid (HX.out.now hb1)
    have HF1 := Lib.hid ((HFi.out.below hb1).more hb1.size)
    have H21 := Lib.hid (H2.out.now hb1)
    clear ho hi5 hb1 HCo
    go_wp2
    go_loopw [13] (fun iv wr => ∃ (k m : Nat), k ≤ n2 ∧ iv = .int .i64 k ∧ (found.take k).any (fun y => belF f y.xs C) = false ∧ wr = w1.drewN m) (fun iv _ => n2 - (intOf iv).toNat)
    case atStart => exact ⟨0, 0, Nat.zero_le _, rfl, rfl, rfl⟩
    case round =>
      obtain ⟨k, m, hk, rfl, hany, rfl⟩ := hrel
      have HAny := Lib.hid hany
      clear hany
      by_cases hlt : k < n2
      · obtain ⟨b, off, y, rfl, -, hat, -, hc1, hxy⟩ := H21.out.at k hlt
        have HAt := Lib.hid hat
        have HQ := Lib.hid (below_q w1 w1.heap.size y y fA fn fc f C A5 n5 c5 hxy HI5.out (HP2.out y (mem_of_at hat)) HCl.out HF1.out HF.out m)
        have hlt' : (k : Int) < (n2 : Int) := by omega
        obtain ⟨z, hz⟩ : ∃ z, belF f y.xs C = z := ⟨_, rfl⟩
        have HZ := Lib.hid hz
        rw [hz] at HQ
        clear hat hxy hz
        go_wp2_with fail
        refine HQ.out.mono ?_
        rintro e w2 ⟨rfl, m2, rfl⟩
        cases z
        · go_wp2
          go_roundw
          case rel => exact ⟨k + 1, m2, by omega, by go_num, by rw [anyF_step HAt.out, HAny.out, HZ.out]; rfl, rfl⟩
          case measure => simp [intOf] <;> omega
        · have HV : Hid (ItsV w1 (.slice (some ⟨b, off, none⟩) n2 c2) found) := Lib.hid ⟨_, n2, c2, rfl, H21.out, HP2.out⟩
          have HE : Hid (boxD f (N + 1) d (its.map It.dat) (found.map It.dat, vis) = (found.map It.dat, vis)) := Lib.hid (boxD_out HNe.out (by
            rw [HC.out, List.any_map, List.any_eq_true]
            exact ⟨y, mem_of_at HAt.out, HZ.out⟩))
          go_wp2
          go_ret2
          exact ⟨⟨_, found, by rw [HE.out]; first | done | rfl, HV.out.below (below_drewN (Below.refl _ _) _), by rw [HE.out]; first | done | rfl⟩, below_drewN HB1.out _⟩
      · obtain rfl : k = n2 := by omega
        have HAn : Hid ((found.map It.dat).any (fun y => belF f y.2 (cornD (its.map It.dat))) = false) := Lib.hid (by
          have h1 := HAny.out
          rw [take_all H2n.out] at h1
          rw [HC.out, List.any_map]
          exact h1)
        clear HAny
        have hsz : (w1.drewN m).heap.size = w1.heap.size := rfl
        obtain ⟨w3, hw3⟩ : ∃ w3, w1.drewN m = w3 := ⟨_, rfl⟩
        have HB3 : Hid (Below w.heap.size w w3) := Lib.hid (by rw [← hw3]; exact below_drewN HB1.out _)
        have HX3 : Hid (Items w3 w3.heap.size A n its) := Lib.hid (by rw [← hw3]; exact HX1.out)
        have HF3 : Hid (Ints w3 w3.heap.size fA fn f) := Lib.hid (by rw [← hw3]; exact HF1.out)
        have H23 : Hid (Items w3 w3.heap.size A2 k found) := Lib.hid (by rw [← hw3]; exact H21.out)
        rw [hw3]
        clear hw3 hsz HX1 HF1 H21 HI5
        by_cases hbig : 2 < n
        · have hbig' : (2 : Int) < (n : Int) := by omega
          obtain ⟨r, hr⟩ : ∃ r, d % fn = r := ⟨_, rfl⟩
          have hrl : r < fn := by rw [← hr]; exact Nat.mod_lt _ hfn.2
          have HR := Lib.hid hr
          obtain ⟨bf, of, v, rfl, -, hat, hcf⟩ := HF3.out.at r hrl
          have hv := HF.out.2.1 v (List.mem_of_getElem? hat)
          obtain ⟨kk, hkv, hkk⟩ : ∃ kk : Nat, v = (kk : Int) ∧ kk < 3 := ⟨v.toNat, by unfold InF at hv; omega, by unfold InF at hv; omega⟩
          subst hkv
          have HCut : Hid (boxD f (N + 1) d (its.map It.dat) (found.map It.dat, vis) = boxD f N (d + 1) (((ordI its kk).drop (n / 2)).map It.dat) (boxD f N (d + 1) (((ordI its kk).take (n / 2)).map It.dat) (found.map It.dat, vis))) := Lib.hid (by
            have hfk : f.getD (d % f.length) 0 = (kk : Int) := by rw [HFn.out, HR.out, List.getD_eq_getElem?_getD, hat]; rfl
            rw [boxD_cut (by rw [HLn.out]; exact hbig) HAn.out, hfk, ordI_half, HXn.out])
          have hmod : Int.tmod (d : Int) (fn : Int) = (r : Int) := by rw [← hr]; exact (Int.ofNat_tmod d fn).symm
          have hmod2 : (d : Int) % (fn : Int) = (r : Int) := by rw [← hr]; exact (Int.natCast_emod d fn).symm
          have hf0 : ¬ (fn : Int) = 0 := by omega
          have hm1 : (r : Int) < (fn : Int) := by omega
          have hm0 : (0 : Int) ≤ (r : Int) := by omega
          clear hr
          have HO := Lib.hid (sOrder w3 w3.heap.size A n c its HX3.out HP.out (Nat.le_refl _) (by omega) kk hkk)
          clear hat hv
          go_wp2_with fail
          refine HO.out.mono ?_
          rintro e w4 ⟨⟨v4, rfl, ho⟩, hb4⟩
          obtain ⟨A6, n6, c6, hv6, hi6⟩ := ho.ints
          have hn6 : n6 = n := by have h1 := hi6.1; rw [ordZ_len] at h1; exact h1.symm
          rw [hn6] at hv6 hi6
          subst hv6
          have HI6 := Lib.hid hi6
          have HB4 := Lib.hid (below_on HB3.out hb4)
          have HX4 := Lib.hid (HX3.out.now hb4)
          have HF4 := Lib.hid ((HF3.out.below hb4).more hb4.size)
          have H24 := Lib.hid (H23.out.now hb4)
          clear ho hi6 hn6 hb4 HO HX3 HF3 H23 hcf hm1 hm0 hmod hmod2 hf0
          obtain ⟨h, hh⟩ : ∃ h, n / 2 = h := ⟨_, rfl⟩
          rw [hh] at HCut
          have hq : Int.tdiv (n : Int) 2 = (h : Int) := by rw [← hh]; exact (Int.ofNat_tdiv n 2).symm
          have hq2 : (n : Int) / 2 = (h : Int) := by rw [← hh]; exact (Int.natCast_ediv n 2).symm
          have hhn : h ≤ n ∧ h < n ∧ 0 < h ∧ n - h < n := by omega
          have HHn := Lib.hid hhn
          clear hh
          have HOl : Hid (OwnTs (w4.alloc (.cells #[] 43)) w4.heap.size (.slice (some ⟨w4.heap.size, 0, none⟩) 0 0) []) := Lib.hid (OwnG.empty _ _ (Nat.le_refl _))
          have HOh : Hid (OwnTs ((w4.alloc (.cells #[] 43)).alloc (.cells #[] 43)) w4.heap.size (.slice (some ⟨w4.heap.size + 1, 0, none⟩) 0 0) []) := Lib.hid (by
            have h1 := OwnG.empty (T := 43) (f := itCs) (s := 2) (w4.alloc (.cells #[] 43)) w4.heap.size (by simp)
            rwa [World.size_alloc] at h1)
          have HBe : Hid (Below w4.heap.size w4 ((w4.alloc (.cells #[] 43)).alloc (.cells #[] 43))) := Lib.hid (((Below.refl _ w4).alloc (Nat.le_refl _) _).alloc (by simp) _)
          go_wp2
          go_loopw [15, 16, 17] (fun lv hv iv wr => ∃ j : Nat, j ≤ n ∧ iv = .int .i64 j ∧ OwnTs wr w4.heap.size lv ((ordI its kk).take (min j h)) ∧ OwnTs wr w4.heap.size hv (((ordI its kk).take j).drop h) ∧ Apart lv hv ∧ Below w4.heap.size w4 wr) (fun _ _ iv _ => n - (intOf iv).toNat)
          case atStart => exact ⟨0, Nat.zero_le _, rfl, by simpa using HOl.out.below ((Below.refl _ _).alloc (Nat.le_refl _) _), by simpa using HOh.out, (fun b h1 h2 => by
            have q1 := Option.some.inj h1
            have q2 := Option.some.inj h2
            dsimp only at q1 q2
            omega), HBe.out⟩
          case round =>
            obtain ⟨j, hj, rfl, hol, hoh, hap, hbel⟩ := hrel
            have HL := Lib.hid hol
            have HH := Lib.hid hoh
            have HA := Lib.hid hap
            have HB := Lib.hid hbel
            clear hol hoh hap
            by_cases hlt : j < n
            · obtain ⟨b6, o6, z, rfl, -, hz, hcz⟩ := (HI6.out.below hbel).at j hlt
              have hz' : (ordZ (keyF its kk) its.length)[j]? = some z := by rw [HXn.out]; exact hz
              obtain ⟨i, u, rfl, hil, hat, hou⟩ := ordI_at hz'
              rw [HXn.out] at hil
              obtain ⟨b, off, t, rfl, -, hat2, hc0, hc1, -⟩ := (HX4.out.below hbel).at i hil
              obtain rfl : t = u := by rw [hat] at hat2; exact (Option.some.inj hat2).symm
              have HOu := Lib.hid hou
              have hlt' : (j : Int) < (n : Int) := by omega
              have hi0 : (0 : Int) ≤ (i : Int) := by omega
              have hi1 : (i : Int) < (n : Int) := by omega
              clear hz hz' hat hat2 hou hbel
              by_cases hjh : j < h
              · have hjh' : (j : Int) < (h : Int) := by omega
                have hln : ((ordI its kk).take (min j h)).length ≤ 1048576 := by rw [List.length_take]; omega
                have HLn := Lib.hid hln
                clear hln
                go_wp2_with (at_builtin; refine wp_appT wr (by rfl) (.tmp 74) (.tmp 82) (by rfl) w4.heap.size _ _ (by rfl) HL.out t _ (by rfl) 1 (by rfl) HLn.out HB.out.size ?_)
                intro v' w5 ho5 hg5 hat5 hb5
                have HL5 := Lib.hid ho5
                have HH5 := Lib.hid (HH.out.apart HA.out.symm hg5)
                have HA5 := Lib.hid (HA.out.symm.grow HH.out.tops hat5).symm
                have HB5 := Lib.hid (HB.out.trans hb5)
                have HSt := Lib.hid (lows_step HOu.out hjh)
                clear ho5 hg5 hat5 hb5
                go_wp2
                go_roundw
                case rel => exact ⟨j + 1, by omega, by go_num, by rw [HSt.out.1]; exact HL5.out, by rw [HSt.out.2]; exact HH5.out, HA5.out, HB5.out⟩
                case measure => simp [intOf] <;> omega
              · have hjh' : ¬ (j : Int) < (h : Int) := by omega
                have hln : (((ordI its kk).take j).drop h).length ≤ 1048576 := by rw [List.length_drop, List.length_take]; omega
                have HLn := Lib.hid hln
                clear hln
                go_wp2_with (at_builtin; refine wp_appT wr (by rfl) (.tmp 84) (.tmp 92) (by rfl) w4.heap.size _ _ (by rfl) HH.out t _ (by rfl) 1 (by rfl) HLn.out HB.out.size ?_)
                intro v' w5 ho5 hg5 hat5 hb5
                have HH5 := Lib.hid ho5
                have HL5 := Lib.hid (HL.out.apart HA.out hg5)
                have HA5 := Lib.hid (HA.out.grow HL.out.tops hat5)
                have HB5 := Lib.hid (HB.out.trans hb5)
                have HSt := Lib.hid (highs_step HOu.out hjh)
                clear ho5 hg5 hat5 hb5
                go_wp2
                go_roundw
                case rel => exact ⟨j + 1, by omega, by go_num, by rw [HSt.out.1]; exact HL5.out, by rw [HSt.out.2]; exact HH5.out, HA5.out, HB5.out⟩
                case measure => simp [intOf] <;> omega
            · obtain rfl : j = n := by omega
              have hmem : ∀ u ∈ ordI its kk, Ints wr wr.heap.size u.A u.n u.xs ∧ IsP u.dat := fun u hu => by
                have hu' : u ∈ its := sortL_mem.1 hu
                exact ⟨((HX4.out.now HB.out).all hu'), HP.out u hu'⟩
              have hol : OwnTs wr w4.heap.size u15 ((ordI its kk).take h) := by have h1 := HL.out; rwa [Nat.min_eq_right HHn.out.1] at h1
              have hoh : OwnTs wr w4.heap.size u16 ((ordI its kk).drop h) := by have h1 := HH.out; rwa [take_all (by rw [ordI_len]; exact HXn.out)] at h1
              obtain ⟨A7, n7, c7, rfl, hI7, hP7⟩ := ItsV.own hol fun u hu => hmem u (List.mem_of_mem_take hu)
              obtain ⟨A8, n8, c8, rfl, hI8, hP8⟩ := ItsV.own hoh fun u hu => hmem u (List.mem_of_mem_drop hu)
              have hn7 : n7 = h := by rw [← hI7.1, List.length_take, ordI_len, HXn.out]; omega
              have hn8 : n8 = j - h := by rw [← hI8.1, List.length_drop, ordI_len, HXn.out]
              have HI8 := Lib.hid hI8
              have HP8 := Lib.hid hP8
              have HBw := Lib.hid (HB4.out.trans (HB.out.mono HB4.out.size))
              have HF5 := Lib.hid ((HF4.out.below HB.out).more HB.out.size)
              have hN : n7 ≤ N ∧ n8 ≤ N ∧ n7 ≤ 16 ∧ n8 ≤ 16 ∧ n7 + n8 = j := by omega
              have hdd : ((d + 1 : Nat) : Int) = (d : Int) + 1 := by omega
              have HQ1 := Lib.hid (HIH.out wr A7 n7 c7 _ hI7 hP7 hN.1 hN.2.2.1 _ fn fc HF5.out (d + 1) (by omega) A2 k c2 found (H24.out.now HB.out) HP2.out vis (by omega) (by omega))
              have HD := Lib.hid hdd
              have HN7 := Lib.hid hn7
              rw [hdd] at HQ1
              clear hmem hol hoh hI7 hP7 hI8 hP8 hbel hn7 hn8 hdd
              go_wp2_with fail
              refine HQ1.out.mono ?_
              rintro e w8 ⟨⟨v8, fd8, rfl, hv8, hd8⟩, hb8⟩
              obtain ⟨A9, n9, c9, rfl, hI9, hP9⟩ := hv8
              have hbl := boxD_len f N (d + 1) (((ordI its kk).take h).map It.dat) (found.map It.dat, vis)
              have hl7 : (((ordI its kk).take h).map It.dat).length = n7 := by rw [List.length_map, List.length_take, ordI_len, HXn.out]; have h9 := HN7.out; omega
              have hn9 : n9 = (boxD f N (d + 1) (((ordI its kk).take h).map It.dat) (found.map It.dat, vis)).1.length := by rw [← hd8, List.length_map]; exact hI9.1.symm
              rw [hl7] at hbl
              dsimp only at hbl
              rw [List.length_map, H2n.out, ← hn9] at hbl
              obtain ⟨s8, hs8⟩ : ∃ s8, boxD f N (d + 1) (((ordI its kk).take h).map It.dat) (found.map It.dat, vis) = s8 := ⟨_, rfl⟩
              rw [hs8] at hd8 hbl HCut ⊢
              have HQ2 := Lib.hid (HIH.out w8 A8 n8 c8 _ (HI8.out.now hb8) HP8.out hN.2.1 hN.2.2.2.1 _ fn fc ((HF5.out.below hb8).more hb8.size) (d + 1) (by omega) A9 n9 c9 fd8 hI9 hP9 s8.2 (by omega) (by omega))
              rw [HD.out, hd8] at HQ2
              have HB8 := Lib.hid (below_on HBw.out hb8)
              clear hb8 hI9 hP9 hd8 hl7 hn9 hs8 HQ1
              go_wp2_with fail
              refine HQ2.out.mono ?_
              rintro e w9 ⟨⟨v9, fd9, he, hv9, hd9⟩, hb9⟩
              obtain ⟨R, hR⟩ : ∃ R, boxD f N (d + 1) (((ordI its kk).drop h).map It.dat) s8 = R := ⟨_, rfl⟩
              have hp8 : (s8.1, s8.2) = s8 := rfl
              rw [hp8, hR] at he hd9
              subst he
              have HCu := Lib.hid (HCut.out.trans hR)
              have HB9 := Lib.hid (below_on HB8.out hb9)
              have HV9 := Lib.hid hv9
              have HD9 := Lib.hid hd9
              clear hv9 hd9 hb9 HQ2 hR hp8
              go_wp2
              go_ret2
              exact ⟨⟨_, fd9, by rw [HCu.out]; first | done | rfl, HV9.out, by rw [HCu.out]; exact HD9.out⟩, HB9.out⟩
        · have hbig' : ¬ (2 : Int) < (n : Int) := by omega
          have HE : Hid (boxD f (N + 1) d (its.map It.dat) (found.map It.dat, vis) = (its.map It.dat).foldl (lookD f) (found.map It.dat, vis)) := Lib.hid (boxD_look HNe.out (by rw [HLn.out]; exact hbig) HAn.out)
          go_wp2
          go_loopw [3, 4, 22] (fun fv vv iv wr => ∃ (k2 : Nat) (fl : List It) (s : List Dt × Nat), k2 ≤ n ∧ iv = .int .i64 k2 ∧ vv = .int .i64 ((s.2 : Nat) : Int) ∧ s = ((its.map It.dat).take k2).foldl (lookD f) (found.map It.dat, vis) ∧ ItsV wr fv fl ∧ fl.map It.dat = s.1 ∧ fl.length ≤ k + k2 ∧ s.2 = vis + k2 ∧ Below w3.heap.size w3 wr) (fun _ _ iv _ => n - (intOf iv).toNat)
          case atStart => exact ⟨0, found, (found.map It.dat, vis), Nat.zero_le _, rfl, rfl, rfl, ⟨A2, k, c2, rfl, H23.out, HP2.out⟩, rfl, by rw [H2n.out]; omega, rfl, Below.refl _ _⟩
          case round =>
            obtain ⟨k2, fl, s, hk2, rfl, rfl, hs, hfv, hfl, hfn2, hsv, hbel⟩ := hrel
            obtain ⟨A9, n9, c9, rfl, hI9, hP9⟩ := hfv
            have HS := Lib.hid hs
            have HI9 := Lib.hid hI9
            have HP9 := Lib.hid hP9
            have HFl := Lib.hid hfl
            have HB := Lib.hid hbel
            have HSv := Lib.hid hsv
            have h9n := hI9.1
            have H9n := Lib.hid h9n
            have hvs : s.2 ≤ 128 := by omega
            clear hs hI9 hP9 hfl hsv
            by_cases hlt : k2 < n
            · obtain ⟨b, off, x, rfl, hbw, hat, hx0, hx1, hxx⟩ := (HX3.out.now HB.out).at k2 hlt
              have HI3b := Lib.hid hbw
              have HAt := Lib.hid hat
              have HXx := Lib.hid hxx
              have HPx := Lib.hid (HP.out x (mem_of_at hat))
              have HF4 := Lib.hid ((HF3.out.below hbel).more hbel.size)
              have HX0 := Lib.hid hx0
              have HX1 := Lib.hid hx1
              have hlt' : (k2 : Int) < (n : Int) := by omega
              obtain ⟨vs, hvse⟩ : ∃ vs, s.2 = vs := ⟨_, rfl⟩
              have HVs := Lib.hid hvse
              rw [hvse] at hvs ⊢
              have HK0 : Hid (OwnTs (wr.alloc (.cells #[] 43)) wr.heap.size (.slice (some ⟨wr.heap.size, 0, none⟩) 0 0) []) := Lib.hid (OwnG.empty _ _ (Nat.le_refl _))
              have HBk : Hid (Below wr.heap.size wr (wr.alloc (.cells #[] 43))) := Lib.hid ((Below.refl _ wr).alloc (Nat.le_refl _) _)
              have HStep := Lib.hid (look_step (f := f) (x := x) (k := vs) HFl.out HVs.out.symm)
              clear hat hxx hx0 hx1 hbel hvse hbw
              go_wp2
              go_loopw [23, 24, 25] (fun kv gv jv wq => ∃ (j : Nat) (gb : Bool), j ≤ n9 ∧ jv = .int .i64 j ∧ gv = .bool gb ∧ gb = (!((fl.take j).any fun y => belF f y.xs x.xs)) ∧ OwnTs wq wr.heap.size kv ((fl.take j).filter fun y => !belF f x.xs y.xs) ∧ Below wr.heap.size wr wq) (fun _ _ jv _ => n9 - (intOf jv).toNat)
              case atStart => exact ⟨0, true, Nat.zero_le _, rfl, rfl, rfl, by simpa using HK0.out, HBk.out⟩
              case round =>
                obtain ⟨j, gb, hj, rfl, rfl, hgb, hok, hbel⟩ := hrel
                have HG := Lib.hid hgb
                have HOk := Lib.hid hok
                have HBq := Lib.hid hbel
                clear hgb hok
                by_cases hlj : j < n9
                · obtain ⟨b9, o9, y, rfl, -, haty, hy0, hy1, hyy⟩ := (HI9.out.below HBq.out).at j hlj
                  have HAy := Lib.hid haty
                  have q1 : wr.cell? ⟨b, off + k2 * 2 + 1, none⟩ = some (.slice x.A x.n x.c) := (hbel.cell (p := ⟨b, off + k2 * 2 + 1, none⟩) ((HI3b.out))).trans HX1.out
                  have hxq := (HXx.out.below hbel).more hbel.size
                  have hyq := hyy.more hbel.size
                  have hfq := (HF4.out.below hbel).more hbel.size
                  have HQ1 := Lib.hid (below_q2 wr wr.heap.size y x fA fn fc f hyq hxq (HP9.out y (mem_of_at haty)) HPx.out hfq HF.out)
                  have HQ2 := Lib.hid (below_q3 wr wr.heap.size x y fA fn fc f hxq hyq HPx.out (HP9.out y (mem_of_at haty)) hfq HF.out)
                  obtain ⟨z1, hz1⟩ : ∃ z1, belF f y.xs x.xs = z1 := ⟨_, rfl⟩
                  obtain ⟨z2, hz2⟩ : ∃ z2, belF f x.xs y.xs = z2 := ⟨_, rfl⟩
                  have HA1 := Lib.hid (anyF_step haty fun y => belF f y.xs x.xs)
                  have HF1 := Lib.hid (filF_step haty fun y => !belF f x.xs y.xs)
                  have HZ1 := Lib.hid hz1
                  have HZ2 := Lib.hid hz2
                  rw [hz1] at HQ1
                  rw [hz2] at HQ2
                  have hlj' : (j : Int) < (n9 : Int) := by omega
                  have hln : ((fl.take j).filter fun y => !belF f x.xs y.xs).length ≤ 1048576 := by
                    have h1 := List.length_filter_le (fun y : It => !belF f x.xs y.xs) (fl.take j)
                    rw [List.length_take] at h1
                    omega
                  have HLn := Lib.hid hln
                  clear haty hyy hxq hyq hfq hz1 hz2 hln hbel
                  cases gb
                  · have HGb : Hid (false = !((fl.take (j + 1)).any fun y => belF f y.xs x.xs)) := Lib.hid (by
                      rw [HA1.out, HZ1.out]
                      have h1 := HG.out
                      generalize ((fl.take j).any fun y => belF f y.xs x.xs) = aa at *
                      revert h1
                      cases aa <;> cases z1 <;> simp)
                    cases z2
                    · go_wp2
                      go_quiet ((go_at_call 29; exact HQ1.out _))
                      go_wp2
                      go_quiet ((go_at_call 29; exact HQ2.out _ _))
                      go_wp2_with (at_builtin; refine wp_appT _ (by rfl) (.tmp 160) (.tmp 165) (by rfl) _ _ _ (by rfl) (HOk.out.below (below_drewN (Below.refl _ _) _)) y _ (by rfl) 1 (by rfl) HLn.out (below_drewN HBq.out _).size ?_)
                      intro v' w5 ho5 hg5 hat5 hb5
                      have HO5 := Lib.hid ho5
                      have HB5 := Lib.hid ((below_drewN HBq.out _).trans hb5)
                      clear ho5 hg5 hat5 hb5
                      go_wp2
                      go_roundw
                      case rel => exact ⟨j + 1, false, by omega, by go_num, by rfl, by have h2 := HGb.out; simpa using h2, by rw [HF1.out, HZ2.out]; simpa using HO5.out, HB5.out⟩
                      case measure => simp [intOf] <;> omega
                    · go_wp2
                      go_quiet ((go_at_call 29; exact HQ1.out _))
                      go_wp2
                      go_quiet ((go_at_call 29; exact HQ2.out _ _))
                      go_wp2
                      go_roundw
                      case rel => exact ⟨j + 1, false, by omega, by go_num, by rfl, by have h2 := HGb.out; simpa using h2, by rw [HF1.out, HZ2.out]; simpa using HOk.out.below (below_drewN (Below.refl _ _) _), below_drewN HBq.out _⟩
                      case measure => simp [intOf] <;> omega
                  · have HGb : Hid ((!z1) = !((fl.take (j + 1)).any fun y => belF f y.xs x.xs)) := Lib.hid (by
                      rw [HA1.out, HZ1.out]
                      have h1 := HG.out
                      generalize ((fl.take j).any fun y => belF f y.xs x.xs) = aa at *
                      revert h1
                      cases aa <;> cases z1 <;> simp)
                    cases z2
                    · go_wp2
                      go_quiet ((go_at_call 29; exact HQ1.out _))
                      go_wp2
                      go_quiet ((go_at_call 29; exact HQ2.out _ _))
                      go_wp2_with (at_builtin; refine wp_appT _ (by rfl) (.tmp 160) (.tmp 165) (by rfl) _ _ _ (by rfl) (HOk.out.below (below_drewN (Below.refl _ _) _)) y _ (by rfl) 1 (by rfl) HLn.out (below_drewN HBq.out _).size ?_)
                      intro v' w5 ho5 hg5 hat5 hb5
                      have HO5 := Lib.hid ho5
                      have HB5 := Lib.hid ((below_drewN HBq.out _).trans hb5)
                      clear ho5 hg5 hat5 hb5
                      go_wp2
                      go_roundw
                      case rel => exact ⟨j + 1, (!z1), by omega, by go_num, by rfl, by have h2 := HGb.out; simpa using h2, by rw [HF1.out, HZ2.out]; simpa using HO5.out, HB5.out⟩
                      case measure => simp [intOf] <;> omega
                    · go_wp2
                      go_quiet ((go_at_call 29; exact HQ1.out _))
                      go_wp2
                      go_quiet ((go_at_call 29; exact HQ2.out _ _))
                      go_wp2
                      go_roundw
                      case rel => exact ⟨j + 1, (!z1), by omega, by go_num, by rfl, by have h2 := HGb.out; simpa using h2, by rw [HF1.out, HZ2.out]; simpa using HOk.out.below (below_drewN (Below.refl _ _) _), below_drewN HBq.out _⟩
                      case measure => simp [intOf] <;> omega
                · obtain rfl : j = n9 := by omega
                  have HAll : Hid (gb = !(fl.any fun y => belF f y.xs x.xs)) := Lib.hid (by have h1 := HG.out; rwa [take_all H9n.out] at h1)
                  have HKp : Hid (OwnTs wr _ u23 (fl.filter fun y => !belF f x.xs y.xs)) := Lib.hid (by have h1 := HOk.out; rwa [take_all H9n.out] at h1)
                  have hm : (its.map It.dat)[k2]? = some x.dat := by rw [List.getElem?_map, HAt.out]; rfl
                  have HFold : Hid (lookD f s x.dat = ((its.map It.dat).take (k2 + 1)).foldl (lookD f) (found.map It.dat, vis)) := Lib.hid (by rw [ptake_at hm, List.foldl_append, ← HS.out]; rfl)
                  have HV := Lib.hid (HI9.out.now hbel)
                  have HBz := Lib.hid (HB.out.trans (HBq.out.mono HB.out.size))
                  have hx0 : wr.cell? ⟨b, off + k2 * 2, none⟩ = some (.int .i64 x.id) := (hbel.cell (p := ⟨b, off + k2 * 2, none⟩) HI3b.out).trans HX0.out
                  have hx1 : wr.cell? ⟨b, off + k2 * 2 + 1, none⟩ = some (.slice x.A x.n x.c) := (hbel.cell (p := ⟨b, off + k2 * 2 + 1, none⟩) HI3b.out).trans HX1.out
                  have hxq := (HXx.out.below hbel).more hbel.size
                  have HXq := Lib.hid hxq
                  clear hm hxq
                  cases gb
                  · have ha : (fl.any fun y => belF f y.xs x.xs) = true := by have h1 := HAll.out; simpa using h1
                    have HS2 : Hid (lookD f s x.dat = (fl.map It.dat, vs + 1)) := Lib.hid (by rw [← HStep.out, if_pos ha])
                    clear ha hbel
                    go_wp2
                    go_roundw
                    case rel => exact ⟨k2 + 1, fl, lookD f s x.dat, by omega, by go_num, by rw [HS2.out]; go_num, HFold.out, ⟨_, _, _, rfl, HV.out, HP9.out⟩, by rw [HS2.out], by omega, by rw [HS2.out]; dsimp only; have h5 := HSv.out; have h6 := HVs.out; omega, HBz.out⟩
                    case measure => simp [intOf] <;> omega
                  · have ha : (fl.any fun y => belF f y.xs x.xs) = false := by have h1 := HAll.out; simpa using h1
                    have HS2 : Hid (lookD f s x.dat = (((fl.filter fun y => !belF f x.xs y.xs) ++ [x]).map It.dat, vs + 1)) := Lib.hid (by rw [← HStep.out, if_neg (by rw [ha]; simp)])
                    have hln : (fl.filter fun y => !belF f x.xs y.xs).length ≤ fl.length := List.length_filter_le _ _
                    have HLn := Lib.hid hln
                    have hln2 : (fl.filter fun y => !belF f x.xs y.xs).length ≤ 1048576 := by omega
                    have HLn2 := Lib.hid hln2
                    clear ha hbel hln hln2
                    go_wp2_with (at_builtin; refine wp_appT _ (by rfl) (.tmp 168) (.tmp 173) (by rfl) _ _ _ (by rfl) HKp.out x _ (by rfl) 1 (by rfl) HLn2.out HBq.out.size ?_)
                    intro v' w5 ho5 hg5 hat5 hb5
                    have hb6 := HBq.out.trans hb5
                    have HV5 : Hid (ItsV w5 v' ((fl.filter fun y => !belF f x.xs y.xs) ++ [x])) := Lib.hid (ItsV.own ho5 fun u hu => by
                      rcases List.mem_append.1 hu with hu | hu
                      · exact ⟨(HI9.out.now hb6).all (List.mem_filter.1 hu).1, HP9.out u (List.mem_filter.1 hu).1⟩
                      · rw [List.mem_singleton.1 hu]
                        exact ⟨(HXx.out.below hb6).more hb6.size, HPx.out⟩)
                    clear ho5 hg5 hat5 hb6
                    go_wp2
                    go_roundw
                    case rel => exact ⟨k2 + 1, _, lookD f s x.dat, by omega, by go_num, by rw [HS2.out]; go_num, HFold.out, HV5.out, by rw [HS2.out], by have h7 := HLn.out; rw [List.length_append, List.length_singleton]; omega, by rw [HS2.out]; dsimp only; have h5 := HSv.out; have h6 := HVs.out; omega, HB.out.trans ((HBq.out.trans hb5).mono HB.out.size)⟩
                    case measure => simp [intOf] <;> omega
            · obtain rfl : k2 = n := by omega
              have HSf : Hid (s = (its.map It.dat).foldl (lookD f) (found.map It.dat, vis)) := Lib.hid (by have h1 := HS.out; rwa [ptake_all HLn.out] at h1)
              have HV9 : Hid (ItsV wr (.slice A9 n9 c9) fl) := Lib.hid ⟨A9, n9, c9, rfl, HI9.out, HP9.out⟩
              clear hbel
              go_wp2
              go_ret2
              exact ⟨⟨_, fl, by rw [HE.out, ← HSf.out]; first | done | rfl, HV9.out, by rw [HE.out, ← HSf.out]; exact HFl.out⟩, HB3.out.trans (HB.out.mono HB3.out.size)⟩
end Go.Proofs.YtnbgmiiknndleaaGreat.num
namespace Go.Proofs.YtnbgmiiknndleaaGreat.num
set_option maxRecDepth 20000
open Go.RowKit
set_option linter.unusedVariables false
set_option linter.unusedSimpArgs false

theorem items_nil (w : World) (B : Nat) (A : Option Addr) : Items w B A 0 [] := ⟨rfl, fun k hk => by cases hk⟩
set_option maxRecDepth 20000 in
set_option maxHeartbeats 3200000 in
theorem sBoxBest (w : World) (B : Nat) (A : Option Addr) (n c : Nat) (its : List It) (h : ItB w B A n its) (B2 : Nat) (A2 : Option Addr) (n2 c2 : Nat) (f : List Int) (hf : Ints w B2 A2 n2 f) (hB2 : B2 ≤ w.heap.size) (hn2 : n2 ≤ 1048576) (D : List Int) (P : Int) (hD : BoxP (its.map It.dat) f D P) :
    Calls Tryz.prog 5 #[.slice A n c, .slice A2 n2 c2] w fun e w' => (∃ v, e = .returned (.tuple #[v, .int .i64 P]) ∧ OwnI w' w.heap.size v D) ∧ Below w.heap.size w w' := by
  obtain ⟨qa, hqa⟩ := bool_of (AreP (its.map It.dat))
  obtain ⟨qf, hqf⟩ := bool_of (FL f)
  have HA := Lib.hid (sAre w B A n c its h.i h.hB h.hn h.si qa hqa)
  have HF : Hid (∀ w1, Below w.heap.size w w1 → Calls Tryz.prog 16 #[.slice A2 n2 c2] w1 fun e w' => e = .returned (.bool qf) ∧ Below w1.heap.size w1 w') := Lib.hid fun w1 h1 => sIsF w1 B2 A2 n2 c2 f (hf.below (h1.mono hB2)) hn2 qf hqf
  have HX := Lib.hid h
  have HFi := Lib.hid hf
  have HQa := Lib.hid hqa
  have HQf := Lib.hid hqf
  have HD := Lib.hid hD
  clear h hf hqa hqf hD
  go_enter Tryz.func5, Tryz.ntmps5
  go_wp2_with fail
  refine HA.out.mono ?_
  rintro e w1 ⟨rfl, hb1⟩
  have HB1 := Lib.hid hb1
  have HE1 := Lib.hid (OwnI.empty w1 w.heap.size hb1.size)
  have HBE1 : Hid (Below w.heap.size w (w1.alloc (.cells #[] 3))) := Lib.hid (hb1.alloc hb1.size _)
  clear hb1 HA
  cases qa
  · obtain ⟨hd1, hd2⟩ := HD.out.no fun h => by have := HQa.out.2 h.2; cases this
    subst hd1 hd2
    go_wp2
    go_ret2
    exact ⟨⟨_, rfl, HE1.out⟩, HBE1.out⟩
  · go_wp2_with fail
    refine (HF.out _ HB1.out).mono ?_
    rintro e w2 ⟨rfl, hb2⟩
    have HB2 := Lib.hid (below_on HB1.out hb2)
    have HE2 := Lib.hid (OwnI.empty w2 w.heap.size HB2.out.size)
    have HBE2 : Hid (Below w.heap.size w (w2.alloc (.cells #[] 3))) := Lib.hid (HB2.out.alloc HB2.out.size _)
    clear hb2 HF HE1 HBE1
    cases qf
    · obtain ⟨hd1, hd2⟩ := HD.out.no fun h => by have := HQf.out.2 h.1; cases this
      subst hd1 hd2
      go_wp2
      go_ret2
      exact ⟨⟨_, rfl, HE2.out⟩, HBE2.out⟩
    · have ha : AreP (its.map It.dat) := by first | exact HQa.out.1 rfl | exact HQa.out.1 trivial
      have hf : FL f := by first | exact HQf.out.1 rfl | exact HQf.out.1 trivial
      have hn16 : n ≤ 16 := by have h1 := ha.2.2; rw [List.length_map, HX.out.i.1] at h1; exact h1
      have hln : (its.map It.dat).length = n := by rw [List.length_map]; exact HX.out.i.1
      have hb3 : Below w.heap.size w (w2.alloc (.cells #[] 43)) := HB2.out.alloc HB2.out.size _
      have HQ := Lib.hid (sBox f hf n (w2.alloc (.cells #[] 43)) A n c its ((HX.out.i.below (hb3.mono HX.out.hB)).up (Nat.le_trans HX.out.hB hb3.size)) (fun u hu => ha.1 _ (List.mem_map_of_mem hu)) (Nat.le_refl _) hn16 A2 n2 c2 ((HFi.out.below (hb3.mono hB2)).more (Nat.le_trans hB2 hb3.size)) 0 (by omega) (some ⟨w2.heap.size, 0, none⟩) 0 0 [] (items_nil _ _ _) (fun u hu => by cases hu) 0 (by omega) (by omega))
      have HDy := Lib.hid (HD.out.yes hf ha)
      have hbl := boxD_len f (its.map It.dat).length 0 (its.map It.dat) ([], 0)
      rw [hln] at HDy hbl
      obtain ⟨R, hR⟩ : ∃ R, boxD f n 0 (its.map It.dat) ([], 0) = R := ⟨_, rfl⟩
      have HR := Lib.hid hR
      rw [hR] at HDy hbl
      have HB3 := Lib.hid hb3
      clear ha hf hb3 hln hR
      go_wp2_with fail
      refine HQ.out.mono ?_
      rintro e w4 ⟨⟨v4, fd, he, hv4, hd4⟩, hb4⟩
      rw [List.map_nil, HR.out] at he hd4
      subst he
      obtain ⟨A5, n5, c5, rfl, hI5, hP5⟩ := hv4
      have HB4 := Lib.hid (below_on HB3.out hb4)
      have hn5 : n5 ≤ 16 := by
        have h1 := congrArg List.length hd4
        rw [List.length_map, hI5.1] at h1
        simp only [List.length_nil] at hbl
        omega
      have HId := Lib.hid (sIds w4 w4.heap.size A5 n5 c5 fd hI5 (Nat.le_refl _) (by omega))
      have HFd := Lib.hid hd4
      have HDs : Hid (SortP (idL fd) D ∧ P = ((R.2 : Nat) : Int)) := Lib.hid ⟨by
        have h1 := HDy.out.1
        have e : idL fd = idsD R.1 := by rw [← hd4]; unfold idL idsD; rw [List.map_map]; rfl
        rw [e]; exact h1, HDy.out.2⟩
      clear hb4 hI5 hP5 hd4 hbl HQ
      go_wp2_with fail
      refine HId.out.mono ?_
      rintro e w5 ⟨⟨A6, n6, c6, rfl, hi6⟩, hb5⟩
      have HB5 := Lib.hid (below_on HB4.out hb5)
      have hn6 : n6 ≤ 16 := by
        have h1 := hi6.1
        have h2 := congrArg List.length HFd.out
        have h3 := HDs.out.1.len
        have h4 := HD.out.small
        rw [idL_len] at h1 h3
        omega
      have HSo := Lib.hid (sSort w5 w5.heap.size A6 n6 c6 _ hi6 (Nat.le_refl _) (by omega))
      clear hi6 hb5 HId
      go_wp2_with fail
      refine HSo.out.mono ?_
      rintro e w6 ⟨⟨v6, s6, rfl, hs6, ho6⟩, hb6⟩
      have HB6 := Lib.hid (below_on HB5.out hb6)
      have hs : s6 = D := hs6.one HDs.out.1 (.refl _)
      subst hs
      have HO6 := Lib.hid (ownI_lower ho6 HB5.out.size)
      have hP := HDs.out.2
      subst hP
      clear hs6 ho6 hb6 HSo
      go_wp2
      go_ret2
      exact ⟨⟨_, rfl, HO6.out⟩, HB6.out⟩
end Go.Proofs.YtnbgmiiknndleaaGreat.num
namespace Go.Proofs.YtnbgmiiknndleaaGreat.num
set_option maxRecDepth 20000
open Go.RowKit
set_option linter.unusedVariables false
set_option linter.unusedSimpArgs false

theorem fm_set3 {α : Type} {f : α → List Value} {s : Nat} (hf : ∀ x, (f x).length = s) (hs : 0 < s) (l : List α) (k : Nat) (y : α) (hk : k < l.length) (j : Nat) (hj : j < l.length * s) :
    ((l.set k y).flatMap f)[j]? = if j / s = k then (f y)[j % s]? else (l.flatMap f)[j]? := by
  have hd : j / s * s + j % s = j := by rw [Nat.mul_comm]; exact Nat.div_add_mod j s
  have hm := Nat.mod_lt j hs
  have hq : j / s < l.length := by rw [Nat.div_lt_iff_lt_mul hs]; exact hj
  by_cases e : j / s = k
  · rw [if_pos e]
    have h := fm_at hf (l.set k y) (j / s) (j % s) y (by rw [e, List.getElem?_set_self hk]) hm
    rwa [hd] at h
  · rw [if_neg e]
    have h1 : (l.set k y)[j / s]? = l[j / s]? := List.getElem?_set_ne (fun h => e h.symm)
    have h2 : l[j / s]? = some l[j / s] := List.getElem?_eq_getElem hq
    have h3 := fm_at hf (l.set k y) (j / s) (j % s) l[j / s] (by rw [h1, h2]) hm
    have h4 := fm_at hf l (j / s) (j % s) l[j / s] h2 hm
    rw [hd] at h3 h4
    rw [h3, h4]
/-- One element of three cells set anew. -/
theorem OwnG.set3 {α : Type} {f : α → List Value} (hf : ∀ x, (f x).length = 3) {T : TypeId} {w : World} {B g n c k : Nat} {v0 v1 v2 : Value} {l : List α} {y : α} (h : OwnG T f 3 w B (.slice (some ⟨g, 0, none⟩) n c) l) (hk : k < l.length) (hy : f y = [v0, v1, v2]) :
    OwnG T f 3 (((w.setCell ⟨g, k * 3, none⟩ v0).setCell ⟨g, k * 3 + 1, none⟩ v1).setCell ⟨g, k * 3 + 2, none⟩ v2) B (.slice (some ⟨g, 0, none⟩) n c) (l.set k y) := by
  rcases h.row with ⟨e, _⟩ | ⟨g', cap, F, e, hB, hle, hcap, hrow, hF⟩
  · cases e
  · injection e with e1 e2 e3
    injection e1 with e1
    injection e1 with e1
    subst e1 e2 e3
    refine OwnG.of_row hf hB (by simp) hle hcap (World.rowIs.set (World.rowIs.set (World.rowIs.set hrow (k * 3) v0) (k * 3 + 1) v1) (k * 3 + 2) v2) fun j hj => ?_
    rw [fm_set3 hf (by decide) l k y hk j hj]
    have hd : j / 3 * 3 + j % 3 = j := by rw [Nat.mul_comm]; exact Nat.div_add_mod j 3
    have hm := Nat.mod_lt j (show 0 < 3 by decide)
    by_cases e : j / 3 = k
    · rw [if_pos e, hy]
      have hc : j % 3 = 0 ∨ j % 3 = 1 ∨ j % 3 = 2 := by omega
      rcases hc with q | q | q
      · rw [q, if_neg (by omega), if_neg (by omega), if_pos (by omega)]; rfl
      · rw [q, if_neg (by omega), if_pos (by omega)]; rfl
      · rw [q, if_pos (by omega)]; rfl
    · rw [if_neg e, hF j hj, if_neg (by omega), if_neg (by omega), if_neg (by omega)]
theorem rowIs_cut {b : Nat} {t : TypeId} {n : Nat} : ∀ (vs : List Value) (o : Nat) (w : World) (f : Nat → Value), w.rowIs b t n f → ∃ f', (w.setCells b o vs).rowIs b t n f' ∧ ∀ j, j < o → f' j = f j
  | [], o, w, f, h => ⟨f, h, fun _ _ => rfl⟩
  | v :: r, o, w, f, h => by
    obtain ⟨f', h1, h2⟩ := rowIs_cut r (o + 1) (w.setCell ⟨b, o, none⟩ v) _ (h.set o v)
    exact ⟨f', h1, fun j hj => by rw [h2 j (by omega), if_neg (by omega)]⟩
theorem grown_cut {g : Nat} : ∀ (vs : List Value) (o : Nat) (w a : World), a.grownBy w (some g) → a.grownBy (w.setCells g o vs) (some g)
  | [], o, w, a, h => h
  | v :: r, o, w, a, h => by
    refine grown_cut r (o + 1) _ a ?_
    refine ⟨h.os, h.tape, h.output, by simp [World.setCell]; exact h.size, fun k hk hne => ?_⟩
    rw [← h.block k hk hne]
    simp only [World.setCell]
    have hne' : g ≠ k := fun e => hne (by rw [e])
    rw [Array.getElem?_modify, if_neg hne']
theorem grown_set {g : Nat} {w a : World} (h : a.grownBy w (some g)) (o : Nat) (v : Value) : a.grownBy (w.setCell ⟨g, o, none⟩ v) (some g) := grown_cut [v] o w a h
/-- clear of the tail behind the k-th element. -/
theorem run_clear_tail (w : World) (t e ty : TypeId) (z : Value) (s : Nat) (ht : Tryz.prog.underlying t = some (.slice e)) (hv : ∀ w, (zeroValue e).run Tryz.prog w = .ok z w) (hz : z.cells.size = s) (hs : 0 < s) (h1 : ∀ u ∈ z.cells, u.oneCell' = true) (b o n c : Nat) (hn : 0 < n)
    (hc : ∀ j, j < n * s → (w.cell? ⟨b, o + j, none⟩).isSome = true) (hf : ∀ j, j < n * s → w.frozen? ⟨b, o + j, none⟩ = false) :
    (Builtin.clear_ #[t] ty #[.slice (some ⟨b, o, none⟩) n c]).run Tryz.prog w = .ok (.tuple #[]) (w.setCells b o (Builtin.zeroCells z.cells n).toList) := by
  have hl : (Builtin.zeroCells z.cells n).toList.length = n * s := by rw [Array.length_toList, size_zeroCells, hz]
  have hst := run_storeCells_cells (P := Tryz.prog) b o (Builtin.zeroCells z.cells n).toList 0 w (by rw [hl]; simpa using hc) (by rw [hl]; simpa using hf) (by
    intro v hv'
    rw [Array.mem_toList_iff] at hv'
    obtain ⟨i, hi, rfl⟩ := Array.getElem_of_mem hv'
    refine h1 _ ?_
    simp only [Builtin.zeroCells, Array.getElem_map, Array.getElem_range]
    rw [getElem!_pos z.cells _ (by rw [hz]; exact Nat.mod_lt _ hs)]
    exact Array.getElem_mem _)
  simp only [Nat.add_zero] at hst
  obtain ⟨m, rfl⟩ : ∃ m, n = m + 1 := ⟨n - 1, by omega⟩
  simp [Builtin.clear_, run_underlying ht, hv, hst]
end Go.Proofs.YtnbgmiiknndleaaGreat.num
namespace Go.Proofs.YtnbgmiiknndleaaGreat.num
set_option maxRecDepth 20000
open Go.RowKit
set_option linter.unusedVariables false
set_option linter.unusedSimpArgs false

set_option maxRecDepth 20000 in
set_option maxHeartbeats 800000 in
/-- slices.IndexFunc by beats with a bound receiver: the first one's place. -/
theorem ctIndexB (w : World) (p : Nat) (A : Option Addr) (n c : Nat) (its : List It) (h : ReadG (ctCells p) 3 w w.heap.size A n its) (hn : n ≤ 1048576) (rv : Value) (hold : It → Bool)
    (HC : ∀ W, Below w.heap.size w W → ∀ u ∈ its, Calls Tryz.prog 47 #[rv, ctV p u] W fun e w' => e = .returned (.bool (hold u)) ∧ Below W.heap.size W w') :
    Calls Tryz.prog 53 #[.slice A n c, .func (.func 47) #[rv] #[]] w fun e w' => ((e = .returned (.int .i64 (-1)) ∧ ∀ u ∈ its, hold u = false) ∨ ∃ k x, k < n ∧ e = .returned (.int .i64 (k : Int)) ∧ its[k]? = some x ∧ hold x = true ∧ ∀ u ∈ its.take k, hold u = false) ∧ Below w.heap.size w w' := by
  have HX := Lib.hid h
  have HF := Lib.hid HC
  clear h HC
  go_enter Tryz.func53, Tryz.ntmps53
  go_wp2
  go_loopw [8] (fun i wr => ∃ k : Nat, k ≤ n ∧ i = .int .i64 k ∧ (∀ u ∈ its.take k, hold u = false) ∧ Below w.heap.size w wr) (fun i _ => n - (intOf i).toNat)
  case atStart => exact ⟨0, Nat.zero_le _, rfl, by simp, Below.refl _ _⟩
  case round =>
    obtain ⟨k, hk, rfl, hall, hbel⟩ := hrel
    have HA := Lib.hid hall
    have HB := Lib.hid hbel
    clear hall
    by_cases hlt : k < n
    · obtain ⟨b, off, x, rfl, hb, hat, d0, d1, d2⟩ := ct_at HX.out k hlt
      have f0 := (hbel.cell (p := ⟨b, off + k * 3, none⟩) hb).trans d0
      have f1 := (hbel.cell (p := ⟨b, off + k * 3 + 1, none⟩) hb).trans d1
      have f2 := (hbel.cell (p := ⟨b, off + k * 3 + 2, none⟩) hb).trans d2
      have HAt := Lib.hid hat
      have hlt' : (k : Int) < (n : Int) := by omega
      have HC1 := HF.out wr HB.out x (mem_of_at hat)
      obtain ⟨z, hz⟩ : ∃ z, hold x = z := ⟨_, rfl⟩
      rw [hz] at HC1
      have hvx : ctV p x = .agg #[.int .i64 x.id, .slice x.A x.n x.c, .pointer (some ⟨p, 0, none⟩)] := rfl
      rw [hvx] at HC1
      have HZ := Lib.hid hz
      have HC2 := Lib.hid HC1
      clear d0 d1 d2 hat hbel hz hvx HC1
      go_wp2_with fail
      refine HC2.out.mono ?_
      rintro e w2 ⟨rfl, hb2⟩
      have HB2 := Lib.hid (below_on HB.out hb2)
      clear hb2 f0 f1 f2 HC2
      cases z
      · go_wp2
        go_roundw
        case rel => exact ⟨k + 1, by omega, by go_num, any_step HAt.out HA.out HZ.out, HB2.out⟩
        case measure => simp [intOf]; omega
      · go_wp2
        go_ret
        exact ⟨.inr ⟨k, x, hlt, rfl, HAt.out, HZ.out, HA.out⟩, HB2.out⟩
    · obtain rfl : k = n := by omega
      have h := HA.out
      rw [take_all HX.out.len] at h
      have HH := Lib.hid h
      clear h hbel
      go_wp2
      go_ret
      exact ⟨.inl ⟨rfl, HH.out⟩, HB.out⟩
theorem zero_ct (w : World) : (zeroValue 61).run Tryz.prog w = .ok (.agg #[.int .i64 0, .slice none 0 0, .pointer none]) w := by kernel_rfl
/-- What is left of the first k. -/
def lftI (hold : It → Bool) (its : List It) (k : Nat) : List It := (its.take k).filter fun u => !hold u
theorem lft_keep {hold : It → Bool} {its : List It} {k : Nat} {x : It} (h : its[k]? = some x) (hx : hold x = false) : lftI hold its (k + 1) = lftI hold its k ++ [x] := by
  unfold lftI
  rw [take_at h, List.filter_append]
  simp [hx]
theorem lft_drop {hold : It → Bool} {its : List It} {k : Nat} {x : It} (h : its[k]? = some x) (hx : hold x = true) : lftI hold its (k + 1) = lftI hold its k := by
  unfold lftI
  rw [take_at h, List.filter_append]
  simp [hx]
theorem lft_all {hold : It → Bool} {its : List It} {k : Nat} (h : ∀ u ∈ its.take k, hold u = false) : lftI hold its k = its.take k := by
  unfold lftI
  exact List.filter_eq_self.2 fun u hu => by rw [h u hu]; rfl
theorem drop_at {its : List It} {k : Nat} {x : It} (h : its[k]? = some x) : its.drop k = x :: its.drop (k + 1) := by
  obtain ⟨hl, rfl⟩ := List.getElem?_eq_some_iff.1 h
  exact List.drop_eq_getElem_cons hl
/-- What the row holds on the way: what is left of the first j; some that are not read again; the others. -/
structure DelInv (hold : It → Bool) (its : List It) (i j : Nat) (m : List It) : Prop where
  eq : ∃ mid : List It, m = lftI hold its j ++ (mid ++ its.drop j) ∧ 0 < mid.length
  len : m.length = its.length
  at' : (lftI hold its j).length = i
  le : j ≤ its.length
theorem DelInv.lt {hold : It → Bool} {its : List It} {i j : Nat} {m : List It} (h : DelInv hold its i j m) : i < j := by
  obtain ⟨mid, e, hm⟩ := h.eq
  have h1 := h.len
  have h2 := h.at'
  have h3 := h.le
  rw [e, List.length_append, List.length_append, List.length_drop] at h1
  omega
theorem DelInv.start {hold : It → Bool} {its : List It} {k : Nat} {x : It} (h : its[k]? = some x) (hx : hold x = true) (hall : ∀ u ∈ its.take k, hold u = false) : DelInv hold its k (k + 1) its := by
  have hl := (List.getElem?_eq_some_iff.1 h).1
  have e : lftI hold its (k + 1) = its.take k := by rw [lft_drop h hx, lft_all hall]
  exact ⟨⟨[x], by rw [e, List.singleton_append, ← drop_at h, List.take_append_drop], by simp⟩, rfl, by rw [e, List.length_take]; omega, hl⟩
theorem DelInv.keep {hold : It → Bool} {its : List It} {i j : Nat} {m : List It} {x : It} (h : DelInv hold its i j m) (hat : its[j]? = some x) (hx : hold x = false) : DelInv hold its (i + 1) (j + 1) (m.set i x) := by
  obtain ⟨mid, e, hm⟩ := h.eq
  have hl := (List.getElem?_eq_some_iff.1 hat).1
  obtain ⟨a, mid', rfl⟩ : ∃ a r, mid = a :: r := by cases mid with | nil => simp at hm | cons a r => exact ⟨a, r, rfl⟩
  refine ⟨⟨mid' ++ [x], ?_, by simp⟩, by rw [List.length_set]; exact h.len, by rw [lft_keep hat hx, List.length_append, h.at']; rfl, hl⟩
  rw [e, lft_keep hat hx, drop_at hat, List.set_append_right _ _ (by rw [h.at']; exact Nat.le_refl _), h.at', Nat.sub_self]
  simp
theorem DelInv.skip {hold : It → Bool} {its : List It} {i j : Nat} {m : List It} {x : It} (h : DelInv hold its i j m) (hat : its[j]? = some x) (hx : hold x = true) : DelInv hold its i (j + 1) m := by
  obtain ⟨mid, e, hm⟩ := h.eq
  have hl := (List.getElem?_eq_some_iff.1 hat).1
  refine ⟨⟨mid ++ [x], ?_, by simp⟩, h.len, by rw [lft_drop hat hx]; exact h.at', hl⟩
  rw [e, lft_drop hat hx, drop_at hat]
  simp
theorem DelInv.read {hold : It → Bool} {its : List It} {i j : Nat} {m : List It} {x : It} (h : DelInv hold its i j m) (hat : its[j]? = some x) : m[j]? = some x := by
  obtain ⟨mid, e, hm⟩ := h.eq
  have h1 := h.len
  have h2 := h.le
  have hl : (lftI hold its j ++ mid).length = j := by
    rw [e, List.length_append, List.length_append, List.length_drop] at h1
    rw [List.length_append]
    omega
  rw [e, ← List.append_assoc, List.getElem?_append_right (by omega), hl, Nat.sub_self, drop_at hat]
  rfl
theorem DelInv.done {hold : It → Bool} {its : List It} {i : Nat} {m : List It} (h : DelInv hold its i its.length m) : m.take i = its.filter fun u => !hold u := by
  obtain ⟨mid, e, hm⟩ := h.eq
  have h2 := h.at'
  rw [e, List.take_append_of_le_length (by omega), List.take_of_length_le (by omega)]
  unfold lftI
  rw [List.take_length]
set_option maxRecDepth 20000 in
set_option maxHeartbeats 1600000 in
/-- slices.DeleteFunc by beats with a bound receiver, over a row of the call's own. -/
theorem ctDelete (w0 w : World) (p : Nat) (v : Value) (its : List It) (h0 : Below w0.heap.size w0 w) (h : OwnG 61 (ctCells p) 3 w w0.heap.size v its) (hn : its.length ≤ 1048576) (rv : Value) (hold : It → Bool)
    (HC : ∀ W, Below w0.heap.size w0 W → ∀ u ∈ its, Calls Tryz.prog 47 #[rv, ctV p u] W fun e w' => e = .returned (.bool (hold u)) ∧ Below W.heap.size W w') :
    Calls Tryz.prog 46 #[v, .func (.func 47) #[rv] #[]] w fun e w' => (∃ v', e = .returned v' ∧ OwnG 61 (ctCells p) 3 w' w0.heap.size v' (its.filter fun u => !hold u) ∧ v'.ownBlock = v.ownBlock) ∧ w.grownBy w' v.ownBlock ∧ Below w0.heap.size w0 w' := by
  obtain ⟨A, c, rfl, hlc, hcm⟩ := h.shape
  have hrd := OwnG.read (ctCells_len p) h
  have HI := Lib.hid (ctIndexB w p A its.length c its hrd hn rv hold fun W hW => HC W (h0.trans (hW.mono h0.size)))
  have HX := Lib.hid h
  have HF := Lib.hid HC
  have HB0 := Lib.hid h0
  clear h hrd HC h0
  go_enter Tryz.func46, Tryz.ntmps46
  go_wp2_with fail
  refine HI.out.mono ?_
  rintro e w1 ⟨hcase, hb1⟩
  have HB1 := Lib.hid hb1
  clear HI hb1
  rcases hcase with ⟨rfl, hall⟩ | ⟨k, x, hk, rfl, hat, hx, hall⟩
  · have HAll := Lib.hid hall
    clear hall
    go_wp2
    go_ret
    refine ⟨⟨_, rfl, ?_, rfl⟩, ⟨HB1.out.os, HB1.out.tape, HB1.out.output, HB1.out.size, fun i hi _ => HB1.out.block i hi⟩, HB0.out.trans (HB1.out.mono HB0.out.size)⟩
    rw [List.filter_eq_self.2 fun u hu => by rw [HAll.out u hu]; rfl]
    exact HX.out.below HB1.out
  · obtain ⟨g, rfl⟩ : ∃ g, A = some ⟨g, 0, none⟩ := by
      rcases HX.out.row with ⟨e, he⟩ | ⟨g, cap, F, e, _⟩
      · rw [he] at hat; simp at hat
      · injection e with e1 e2 e3
        exact ⟨g, e1⟩
    have hg0 : w0.heap.size ≤ g := HX.out.lows g rfl
    have hgw : g < w.heap.size := HX.out.tops g rfl
    have hne : ((k : Int) == -1) = false := by simp
    have HS := Lib.hid (DelInv.start hat hx hall)
    have hlc' : (its.length : Int) ≤ (c : Int) := by omega
    have hcm' : (c : Int) ≤ 9223372036854775807 := by unfold maxLen at hcm; omega
    have HX1 := Lib.hid (HX.out.below HB1.out)
    have HG1 : Hid (w.grownBy w1 (some g)) := Lib.hid ⟨HB1.out.os, HB1.out.tape, HB1.out.output, HB1.out.size, fun i hi _ => HB1.out.block i hi⟩
    clear hat hx hall
    go_wp2
    go_loopw [5, 6] (fun iv jv wr => ∃ (i j : Nat) (m : List It), iv = .int .i64 i ∧ jv = .int .i64 j ∧ DelInv hold its i j m ∧ OwnG 61 (ctCells p) 3 wr w0.heap.size (.slice (some ⟨g, 0, none⟩) its.length c) m ∧ w.grownBy wr (some g)) (fun _ jv _ => its.length - (intOf jv).toNat)
    case atStart => exact ⟨k, k + 1, its, rfl, by go_num, HS.out, HX1.out, HG1.out⟩
    case round =>
      obtain ⟨i, j, m, rfl, rfl, hinv, hown, hgr⟩ := hrel
      have HInv := Lib.hid hinv
      have HO := Lib.hid hown
      have HG := Lib.hid hgr
      have hij := hinv.lt
      have hj := hinv.le
      have hml := hinv.len
      have HBw : Hid (Below w0.heap.size w0 wr) := Lib.hid (HB0.out.grown hgr HB0.out.size (fun k hk => by cases hk; exact hg0))
      have hgs := hgr.size
      clear hinv hown hgr
      by_cases hlt : j < its.length
      · obtain ⟨b, off, x, he, hb, hat, d0, d1, d2⟩ := ct_at (HO.out.read (ctCells_len p)) j hlt
        cases he
        rw [Nat.zero_add] at d0 d1 d2
        obtain ⟨x', hat'⟩ : ∃ x', its[j]? = some x' := ⟨_, List.getElem?_eq_getElem hlt⟩
        obtain rfl : x' = x := Option.some.inj ((HInv.out.read hat').symm.trans hat)
        have HAt := Lib.hid hat'
        have hlt' : (j : Int) < (its.length : Int) := by omega
        have hj0 : (0 : Int) ≤ (j : Int) := by omega
        obtain ⟨z, hz⟩ : ∃ z, hold x' = z := ⟨_, rfl⟩
        have HZ := Lib.hid hz
        have HC1 : Hid (∀ W, Below w0.heap.size w0 W → Calls Tryz.prog 47 #[rv, .agg #[.int .i64 x'.id, .slice x'.A x'.n x'.c, .pointer (some ⟨p, 0, none⟩)]] W fun e w' => e = .returned (.bool z) ∧ Below W.heap.size W w') := Lib.hid fun W hW => by rw [← hz]; exact HF.out W hW x' (mem_of_at hat')
        have HBa : Hid (Below w0.heap.size w0 (wr.alloc (.cells #[.int .i64 x'.id, .slice x'.A x'.n x'.c, .pointer (some ⟨p, 0, none⟩)] 61))) := Lib.hid (HBw.out.alloc HBw.out.size _)
        have Xx : Hid (Box3 (wr.alloc (.cells #[.int .i64 x'.id, .slice x'.A x'.n x'.c, .pointer (some ⟨p, 0, none⟩)] 61)) wr.heap.size p x') := Lib.hid (Box3.new _ _ _ _)
        have HOa := Lib.hid (HO.out.below ((Below.refl _ wr).alloc (Nat.le_refl _) (.cells #[.int .i64 x'.id, .slice x'.A x'.n x'.c, .pointer (some ⟨p, 0, none⟩)] 61)))
        have HGa : Hid (w.grownBy (wr.alloc (.cells #[.int .i64 x'.id, .slice x'.A x'.n x'.c, .pointer (some ⟨p, 0, none⟩)] 61)) (some g)) := Lib.hid (HG.out.trans (World.grownBy_alloc wr _ _))
        clear hat hat' hz
        go_wp2_with fail
        refine (HC1.out _ HBa.out).mono ?_
        rintro e w2 ⟨rfl, hb2⟩
        have HB2 := Lib.hid (HBa.out.trans (hb2.mono HBa.out.size))
        have HO2 := Lib.hid (HOa.out.below hb2)
        have Xx2 := Lib.hid (Xx.out.below hb2)
        have HG2 : Hid (w.grownBy w2 (some g)) := Lib.hid (HGa.out.trans ⟨hb2.os, hb2.tape, hb2.output, hb2.size, fun i hi _ => hb2.block i hi⟩)
        clear hb2 d0 d1 d2 HC1 HBa HOa Xx HGa
        cases z
        · obtain ⟨x_g, x_0, x_1, x_2⟩ := Xx2.out
          have him : i < m.length := by omega
          obtain ⟨b3, off3, y, he3, hb3, hat3, d0, d1, d2⟩ := ct_at (HO2.out.read (ctCells_len p)) i (by omega)
          cases he3
          have hin : (i : Int) < (its.length : Int) := by omega
          have hi0 : (0 : Int) ≤ (i : Int) := by omega
          rw [Nat.zero_add] at d0 d1 d2
          obtain ⟨cap3, F3, e3, hrow3⟩ : ∃ cap F, c = cap ∧ w2.rowIs g 61 (cap * 3) F := by
            rcases HO2.out.row with ⟨e, _⟩ | ⟨g', cap, F, e, _, _, _, hrow, _⟩
            · cases e
            · injection e with e1 e2 e3
              injection e1 with e1
              injection e1 with e1
              subst e1
              exact ⟨cap, F, e3, hrow⟩
          have z0 := World.rowIs.frozen hrow3 (i * 3)
          have z1 := World.rowIs.frozen hrow3 (i * 3 + 1)
          have z2 := World.rowIs.frozen hrow3 (i * 3 + 2)
          have hneg : ¬ wr.heap.size = g := by have := HO.out.tops g rfl; omega
          have hngg : ¬ g = wr.heap.size := fun h => hneg h.symm
          clear hat3 hrow3 e3
          go_wp2
          go_roundw
          case rel => exact ⟨i + 1, j + 1, m.set i x', by go_num, by go_num, HInv.out.keep HAt.out HZ.out, OwnG.set3 (ctCells_len p) HO2.out him rfl, grown_set (grown_set (grown_set HG2.out _ _) _ _) _ _⟩
          case measure => simp [intOf]; omega
        · go_wp2
          go_roundw
          case rel => exact ⟨i, j + 1, m, rfl, by go_num, HInv.out.skip HAt.out HZ.out, HO2.out, HG2.out⟩
          case measure => simp [intOf]; omega
      · obtain rfl : its.length = j := by omega
        have hin : (i : Int) ≤ (its.length : Int) := by omega
        have hi0 : (0 : Int) ≤ (i : Int) := by omega
        have hic : (i : Int) ≤ (c : Int) := by omega
        obtain ⟨F3, hrow3, hF3⟩ : ∃ F, wr.rowIs g 61 (c * 3) F ∧ ∀ q, q < m.length * 3 → (m.flatMap (ctCells p))[q]? = some (F q) := by
          rcases HO.out.row with ⟨e, _⟩ | ⟨g', cap, F, e, _, _, _, hrow, hF⟩
          · cases e
          · injection e with e1 e2 e3
            injection e1 with e1
            injection e1 with e1
            subst e1 e3
            exact ⟨F, hrow, hF⟩
        have hmc : its.length ≤ c := by omega
        have hcl : ∀ ty, (Builtin.clear_ #[46] ty #[.slice (some ⟨g, i * 3, none⟩) (its.length - i) (c - i)]).run Tryz.prog wr = .ok (.tuple #[]) (wr.setCells g (i * 3) (Builtin.zeroCells (Value.agg #[.int .i64 0, .slice none 0 0, .pointer none]).cells (its.length - i)).toList) := fun ty =>
          run_clear_tail wr _ _ ty (.agg #[.int .i64 0, .slice none 0 0, .pointer none]) 3 Tryz.underlying46 zero_ct rfl (by decide) (by simp [Value.cells, Value.oneCell']) g (i * 3) (its.length - i) (c - i) (by omega) (fun q hq => by rw [World.rowIs.cell hrow3 (by omega)]; rfl) (fun q hq => World.rowIs.frozen hrow3 _)
        obtain ⟨vs, hvs⟩ : ∃ vs, (Builtin.zeroCells (Value.agg #[.int .i64 0, .slice none 0 0, .pointer none]).cells (its.length - i)).toList = vs := ⟨_, rfl⟩
        rw [hvs] at hcl
        have HW := Lib.hid (rowIs_cut vs (i * 3) wr F3 hrow3)
        have HGc := Lib.hid (grown_cut vs (i * 3) wr w HG.out)
        have HF3 := Lib.hid hF3
        clear hj hvs hrow3 hF3
        go_wp2
        go_ret
        obtain ⟨F4, hr4, he4⟩ := HW.out
        refine ⟨⟨_, rfl, ?_, rfl⟩, HGc.out, HB0.out.grown HGc.out HB0.out.size (fun k hk => by cases hk; exact hg0)⟩
        have hdone := HInv.out.done
        rw [← hdone]
        have hlen : (m.take i).length = i := by rw [List.length_take]; omega
        refine OwnG.of_row (ctCells_len p) hg0 hlen (by omega) hcm hr4 fun j hj => ?_
        rw [he4 j hj, fm_take (ctCells_len p), List.getElem?_take_of_lt hj]
        exact HF3.out j (by omega)
end Go.Proofs.YtnbgmiiknndleaaGreat.num
namespace Go.Proofs.YtnbgmiiknndleaaGreat.num
set_option maxRecDepth 20000
open Go.RowKit Go.Shelf
set_option linter.unusedVariables false
set_option linter.unusedSimpArgs false
attribute [local go_sem] Oper.semAt_some

theorem wpIn_appG {α : Type} {f : α → List Value} {s : Nat} (hf : ∀ x, (f x).length = s) (h1 : ∀ x, ∀ u ∈ f x, u.oneCell' = true) {T tS : TypeId} {z : Value} {bytes : Nat} (ht : Tryz.prog.underlying tS = some (.slice T)) (hinf : (Tryz.prog.info? T).map (fun i => (i.zero, i.size, i.bytes)) = some (some z, s, bytes)) (hzs : z.cells.size = s) (hs0 : 0 < s)
    {F : Fence} {n : Nat} {ops : Array Oper} {rest : List Oper} {o : Oper} {a : Act} {Q : Exit → Act → World → Prop} (w : World) (hgd : o.guard = none) (sl x : Operand)
    (ho : o.op = .call { callee := .builtin .append, args := #[sl, x], argTypes := #[tS, tS] })
    (B : Nat) (v : Value) (l : List α) (hs : a.eval sl = v) (hown : OwnG T f s w B v l) (cs : Array Value) (y : α) (hcs : cs = (f y).toArray) (c : Nat)
    (N : Nat) (hNw : w.heap.size = N) (hx : a.eval x = .slice (some ⟨N, 0, none⟩) 1 c) (hlen : (l.length + 1) * bytes ≤ 140737488355328) (hbt : 0 < bytes) (hB : B ≤ w.heap.size)
    (h : ∀ v' w', OwnG T f s w' B v' (l ++ [y]) → (w.alloc (.cells cs T)).grownBy w' v.ownBlock → wpListIn F n Tryz.prog ops Q rest (a.put o.dst v') w') :
    wpListIn F n Tryz.prog ops Q (o :: rest) a (w.alloc (.cells cs T)) := by
  obtain ⟨i0, hi, hz⟩ := Option.map_eq_some_iff.1 hinf
  simp only [Prod.mk.injEq] at hz
  obtain ⟨hz0, hz1, hz2⟩ := hz
  have hm : l.length + 1 ≤ 140737488355328 := Nat.le_trans (Nat.le_mul_of_pos_right _ hbt) hlen
  subst hcs hNw
  refine wpListIn_append_own _ hgd sl x tS ho B T i0 z s bytes ht hi hz0 hz1 hz2 hzs hs0 v l.length (l.flatMap f) hs (World.ownsRow.alloc hown _) ⟨w.heap.size, 0, none⟩ 1 c (f y) hx (by rw [hf, Nat.one_mul]) ?_ (h1 y) (by unfold maxLen; omega) hlen (by simp; omega) ?_
  · intro j u hj
    have e : (⟨w.heap.size, 0, none⟩ : Addr).add j = ⟨w.heap.size, j, none⟩ := by unfold Addr.add; split <;> simp_all
    rw [e, World.cell?_alloc_at _ _ _ _ rfl]
    simpa using hj
  · intro v' w' hown' hg _
    refine h v' w' ?_ hg
    unfold OwnG
    rw [List.length_append, List.length_singleton, List.flatMap_append, List.flatMap_singleton]
    exact hown'

def ctBox (p : Nat) (x : It) : Obj := .cells #[.int .i64 x.id, .slice x.A x.n x.c, .pointer (some ⟨p, 0, none⟩)] 61
theorem box3_own {β : Type} (g p : Nat) (f : β → It) : Go.Own (fun s W => Box3 W g p (f s)) := fun s X Y row hs hg hrow => by
  obtain ⟨h0, h1, h2, h3⟩ := hs
  exact ⟨Nat.lt_of_lt_of_le h0 hg.size, cell_kept h1 hg hrow, cell_kept h2 hg hrow, cell_kept h3 hg hrow⟩
theorem take_pre {α : Type} (l : List α) (k : Nat) : l.take k <+: l := List.take_prefix k l

set_option maxHeartbeats 4000000 in
/-- slices.Values' closure, for every loop body that keeps what lay below n₀. -/
theorem vals1_in (F : Fence) (n : Nat) (h7 : F.fn 56) (hro : F.round = none) (hn : 1 ≤ n) (l Bs n₀ p : Nat) (A : Option Addr) (len cap : Nat) (its : List It) (hl : len ≤ 1048576) (J Jx : List It → World → Prop) (hJ : ∀ s o W, J s W → J s (W.alloc o))
    (hY : ∀ pre x W, J pre W → pre.length < len → YieldAt F (n - 1) Tryz.prog l #[ctV p x] W fun e W' =>
      (e = .returned (.bool true) ∧ J (pre ++ [x]) W' ∧ Below n₀ W W') ∨ (e = .returned (.bool false) ∧ Jx (pre ++ [x]) W'))
    (W : World) (hBs : W.cell? ⟨Bs, 0, none⟩ = some (.slice A len cap)) (hc : ReadG (ctCells p) 3 W n₀ A len its) (hn₀ : n₀ ≤ W.heap.size) (h0 : J [] W) :
    CallsIn F n Tryz.prog 56 #[.func (.yield l) #[] #[], .pointer (some ⟨Bs, 0, none⟩)] W fun e W' => (∃ v, e = .returned v) ∧
      ((∃ ys, ys = its ∧ J ys W') ∨ (∃ pre, pre <+: its ∧ Jx pre W')) := by
  have HC := Lib.hid hc
  have HY := Lib.hid hY
  have HJ := Lib.hid hJ
  clear hY hJ hc
  refine callsIn_of_wp Tryz.func56 rfl h7 ?_ hro
  simp only [Tryz.ntmps56, List.size_toArray, List.length_cons, List.length_nil, Nat.reduceAdd, Nat.reduceSub, Array.replicate_succ, Array.replicate_zero, List.push_toArray, List.append_toArray, List.nil_append, List.cons_append]
  gi_wp2
  gi_loopw [7] (fun i wr => ∃ k : Nat, k ≤ len ∧ i = .int .i64 k ∧ J (its.take k) wr ∧ Below n₀ W wr)
    (fun i _ => len - (intOf i).toNat)
  case atStart => exact ⟨0, Nat.zero_le _, rfl, by rw [List.take_zero]; exact h0, Below.refl _ _⟩
  case round =>
    obtain ⟨k, hk, rfl, hJs, hnx⟩ := hrel
    by_cases hlt : k < len
    · obtain ⟨x, hx⟩ := HC.out.get hlt
      obtain ⟨b, off, rfl, hb, h3⟩ := HC.out.at' k x hx
      have f0 := (hnx.cell (p := ⟨b, off + k * 3 + 0, none⟩) hb).trans (h3 0 _ rfl)
      have f1 := (hnx.cell (p := ⟨b, off + k * 3 + 1, none⟩) hb).trans (h3 1 _ rfl)
      have f2 := (hnx.cell (p := ⟨b, off + k * 3 + 2, none⟩) hb).trans (h3 2 _ rfl)
      rw [Nat.add_zero] at f0
      have hlen : (its.take k).length = k := by rw [List.length_take, HC.out.len]; omega
      have HT : Hid (its.take k ++ [x] = its.take (k + 1)) := Lib.hid (take_at hx).symm
      have hlt' : (k : Int) < (len : Int) := by omega
      obtain ⟨fn, tmps, assign, body, hy, hR⟩ := HY.out _ x (wr.alloc (ctBox p x)) (HJ.out _ _ _ hJs) (by rw [hlen]; exact hlt)
      have hvx : ctV p x = .agg #[.int .i64 x.id, .slice x.A x.n x.c, .pointer (some ⟨p, 0, none⟩)] := rfl
      have hbx : ctBox p x = .cells #[.int .i64 x.id, .slice x.A x.n x.c, .pointer (some ⟨p, 0, none⟩)] 61 := rfl
      rw [hvx, hbx] at hy
      have HNX : Hid (Below n₀ W (wr.alloc (ctBox p x))) := Lib.hid (hnx.alloc (Nat.le_trans hn₀ hnx.size) _)
      rw [hbx] at hR HNX
      clear h3 hvx hbx hlen hx
      gi_wp2
      refine hR.mono ?_
      rintro e W3 (⟨rfl, hJ3, hk3⟩ | ⟨rfl, hJx3⟩)
      · gi_wp2
        go_roundw
        case rel => exact ⟨k + 1, by omega, by go_num, by rw [← HT.out]; exact hJ3, HNX.out.trans hk3⟩
        case measure => simp [intOf]; omega
      · gi_wp2
        refine bodyPost_ret (results_none rfl _ _ _) rfl ?_
        exact ⟨⟨_, rfl⟩, .inr ⟨_, by rw [HT.out]; exact take_pre _ _, hJx3⟩⟩
    · obtain rfl : k = len := by omega
      have HJ9 : Hid (J its wr) := Lib.hid (by rwa [take_all HC.out.len] at hJs)
      gi_wp2
      go_end0
      exact ⟨⟨_, rfl⟩, .inl ⟨_, rfl, HJ9.out⟩⟩

set_option maxHeartbeats 1000000 in
theorem vals_in (F : Fence) (n : Nat) (h5 : F.fn 43) (hro : F.round = none) (a : Option Addr) (len cap : Nat) (w : World) :
    CallsIn F n Tryz.prog 43 #[.slice a len cap] w fun e w' => e = .returned (.func (.func 56) #[] #[.pointer (some ⟨w.heap.size, 0, none⟩)]) ∧ w' = w.alloc (.cells #[.slice a len cap] 46) := by
  refine callsIn_of_wp Tryz.func43 rfl h5 ?_ hro
  simp only [Tryz.ntmps43, List.size_toArray, List.length_cons, List.length_nil, Nat.reduceAdd, Nat.reduceSub, Array.replicate_succ, Array.replicate_zero, List.push_toArray, List.append_toArray, List.nil_append, List.cons_append]
  gi_wp2
  go_ret
  exact ⟨rfl, rfl⟩

theorem vals_stops (F : Fence) (n : Nat) (h7 : F.fn 56) (hro : F.round = none) (hn : 1 ≤ n) (Bs n₀ p : Nat) (A : Option Addr) (len cap : Nat) (its : List It) (hl : len ≤ 1048576) (w : World) (hBs : Bs < w.heap.size) (hn₀ : n₀ ≤ w.heap.size)
    (hc : w.cell? ⟨Bs, 0, none⟩ = some (.slice A len cap)) (hI : ReadG (ctCells p) 3 w n₀ A len its) :
    SeqStopsK F n Tryz.prog 56 #[.pointer (some ⟨Bs, 0, none⟩)] (fun x : It => #[ctV p x]) (Below n₀) (fun ys => ys = its) (fun pre => pre <+: its) len w := fun l J Jx W hW hJ _ hY h0 =>
  vals1_in F n h7 hro hn l Bs n₀ p A len cap its hl J Jx (fun s o W1 h => hJ s W1 _ none h (World.grownBy_alloc W1 o none) (fun r e => by cases e)) hY W ((hW.cell (p := ⟨Bs, 0, none⟩) hBs).trans hc) (hI.below (hW.mono hn₀)) (Nat.le_trans hn₀ hW.size) h0

set_option maxHeartbeats 8000000 in
theorem appSeq_in (F : Fence) (n : Nat) (h11 : F.fn 74) (hro : F.round = none) (hn : 3 ≤ n) (g : Nat) (lb : Array Value) (hFg : F.fn g) (eg : ∀ args w, (callFunc g args).run Tryz.prog w = .ok (.enter g args) w) (n₀ p : Nat) (its : List It) (hl : its.length ≤ 1048576) (w : World) (hn₀ : n₀ ≤ w.heap.size)
    (hseq : SeqStopsK F (n - 1) Tryz.prog g lb (fun x : It => #[ctV p x]) (Below n₀) (fun ys => ys = its) (fun pre => pre <+: its) its.length w) :
    CallsIn F n Tryz.prog 74 #[.slice none 0 0, .func (.func g) #[] lb] w fun e W' => ∃ v, e = .returned v ∧ OwnG 61 (ctCells p) 3 W' w.heap.size v its ∧ Below w.heap.size w W' := by
  have h1 : 1 ≤ n := by omega
  refine callsIn_of_wp_marks Tryz.func74 rfl h11 ?_ hro
  simp only [Tryz.ntmps74, List.size_toArray, List.length_cons, List.length_nil, Nat.reduceAdd, Nat.reduceSub, Array.replicate_succ, Array.replicate_zero, List.push_toArray, List.append_toArray, List.nil_append, List.cons_append]
  gi_wp2
  have bO := Boxed.new w 45 (.slice none 0 0)
  have hB0 : Below w.heap.size w (w.alloc (.cells #[.slice none 0 0] 45)) := (Below.refl _ w).alloc (Nat.le_refl _) _
  have hsz : (w.alloc (.cells #[.slice none 0 0] 45)).heap.size = w.heap.size + 1 := by simp
  obtain ⟨W0, hW0⟩ : ∃ W0, w.alloc (.cells #[.slice none 0 0] 45) = W0 := ⟨_, rfl⟩
  rw [hW0] at bO hB0 hsz ⊢
  clear hW0
  refine wpIn_rangeFunc_ownH hro h1 (gf := g) (lb := lb) rfl hFg eg
    hseq belowK_t (belowK_b (by omega)) hB0 (fun _ => rfl)
    (fun pre W => (∃ v, Boxed W w.heap.size 45 v ∧ W.ownsRow w.heap.size 61 3 v pre.length (pre.flatMap (ctCells p)) ∧ True) ∧ Below w.heap.size w W)
    (fun _ _ _ => False)
    (OwnFrom.and (Own.from (holdsRow_own w.heap.size w.heap.size 45 61 3 (fun (pre : List It) => pre.length) (fun (pre : List It) => pre.flatMap (ctCells p)) (fun _ _ => True)) _) (ownFrom_below (Nat.le_refl _) (by omega)))
    (fun _ _ _ _ _ hs _ _ => hs)
    ⟨⟨_, bO, World.ownsRow_nil _ _ _ _, trivial⟩, hB0⟩
    (fun x a' W => ∃ Bx, w.heap.size < Bx ∧ Box3 W Bx p x ∧ a' = { tmps := #[.slice none 0 0, .func (.func g) #[] lb, .pointer (some ⟨w.heap.size, 0, none⟩), undef, .slice none 0 0, .pointer (some ⟨Bx, 0, none⟩), .func (.func g) #[] lb, ctV p x, undef, undef, undef, undef, undef], defers := [] })
    (fun x a' _ X Y row hs hg hr => by obtain ⟨Bx, h1, h2, h3⟩ := hs; exact ⟨Bx, h1, box3_own Bx p (fun (_ : Unit) => x) () X Y row h2 hg (fun r e => (hr r e).2), h3⟩)
    ?assign ?body ?done ?stop
  case assign =>
    rintro l pre x W K ⟨⟨v, hv, hrow, -⟩, hB1⟩ hK
    unfold ctV at hK ⊢
    gi_wp2
    exact hK _ _ ((KeepsOthers.alloc _ _).from _) ((Below.refl _ W).alloc (Nat.le_trans hn₀ hB1.size) _) ⟨⟨v, hv.alloc _, World.ownsRow.alloc hrow _, trivial⟩, hB1.alloc hB1.size _⟩ ⟨W.heap.size, hv.lt, Box3.new _ _ _ _, rfl⟩
  case body =>
    rintro l pre x a' W hl' ⟨r, hr⟩ ⟨⟨v, hv, hrow, -⟩, hB⟩ ⟨Bx, hBx, hX, rfl⟩ hlt
    have hc := hv.cell
    obtain ⟨x_g, x_0, x_1, x_2⟩ := hX
    unfold ctV
    gi_wp2_with (gi_at_builtin; refine wpIn_appG (ctCells_len p) (ctCells_one p) (T := 61) (tS := 45) Tryz.underlying45 info_ct rfl (by decide) W (by rfl) _ _ (by rfl) w.heap.size v pre (by rfl) hrow _ x (by rfl) 1 _ rfl (by rfl) (by omega) (by decide) hB.size ?_; intro v' w1 hown' hgrow; obtain ⟨g', cap', rfl⟩ := ownsRow_succ (k := pre.length) (by have h := hown'; unfold OwnG at h; rwa [List.length_append, List.length_singleton] at h); obtain ⟨hv1, hv2, hr2, hk2, hb2⟩ := hv.appended (by decide) hrow hB.size (Nat.le_refl _) hown' hgrow; have hc1 := hv1.cell; have hf1 := hv1.frozen)
    exact ⟨hk2.from _, (hb2.mono hn₀), ⟨_, hv2, hr2, trivial⟩, hB.trans hb2⟩
  case done =>
    rintro D ys W hD rfl ⟨⟨v, hv, hrow, -⟩, hB⟩ hK
    have hc := hv.cell
    gi_wp2
    refine ⟨by simp, .inl ⟨_, _, rfl, run_takeDeferred hK, ?_⟩⟩
    exact ⟨_, results_tmp rfl _ _ _, v, rfl, ownsRow_putObj hrow _ hK rfl, hB.trans (belowK_b (w := w) (Nat.le_refl _) W D _ _ (by omega) hK rfl rfl)⟩
  case stop =>
    rintro D c pre W _ _ h _
    exact h.elim
end Go.Proofs.YtnbgmiiknndleaaGreat.num
namespace Go.Proofs.YtnbgmiiknndleaaGreat.num
set_option maxRecDepth 20000
open Go.Sort Go.Proofs Go.RowKit Go.Shelf
set_option linter.unusedVariables false
set_option linter.unusedSimpArgs false

theorem nan_int (x : Int) (w : World) : Calls Tryz.prog 57 #[.int .i64 x] w fun e w' => e = .returned (.bool false) ∧ w' = w := by
  go_enter Tryz.func57, Tryz.ntmps57
  go_wp2
  go_ret
  exact ⟨by simp, rfl⟩
theorem cmp_int (x y : Int) (w : World) : Calls Tryz.prog 45 #[.int .i64 x, .int .i64 y] w fun e w' => e = .returned (.int .i64 (cmpI x y)) ∧ w' = w := by
  have HZ : Hid (∀ z, cmpI x y = z → z = if x < y then -1 else if y < x then 1 else 0) := Lib.hid fun z h => h.symm
  generalize hz : cmpI x y = z at *
  have h := HZ.out z rfl
  clear HZ hz
  by_cases h1 : x < y
  · rw [if_pos h1] at h
    subst h
    go_enter Tryz.func45, Tryz.ntmps45
    go_wp2_with (go_at_call 57; refine (nan_int _ _).mono ?_; rintro e w1 ⟨rfl, rfl⟩)
    go_ret
    exact ⟨rfl, rfl⟩
  · rw [if_neg h1] at h
    by_cases h2 : y < x
    · rw [if_pos h2] at h
      subst h
      go_enter Tryz.func45, Tryz.ntmps45
      go_wp2_with (go_at_call 57; refine (nan_int _ _).mono ?_; rintro e w1 ⟨rfl, rfl⟩)
      go_ret
      exact ⟨rfl, rfl⟩
    · rw [if_neg h2] at h
      subst h
      go_enter Tryz.func45, Tryz.ntmps45
      go_wp2_with (go_at_call 57; refine (nan_int _ _).mono ?_; rintro e w1 ⟨rfl, rfl⟩)
      go_ret
      exact ⟨rfl, rfl⟩
theorem field_at {w : World} {B : Nat} {x : It} (hx : Ints w B x.A x.n x.xs) (px : IsP x.dat) {k : Nat} (hk : k < 3) : ∃ b off : Nat, x.A = some ⟨b, off, none⟩ ∧ b < B ∧ k < x.n ∧ w.cell? ⟨b, off + k, none⟩ = some (.int .i64 (fval x k)) := by
  have hn : x.n = 3 := hx.1.symm.trans px.2.2
  obtain ⟨b, off, v, h1, h2, h3, h4⟩ := hx.at k (by omega)
  refine ⟨b, off, h1, h2, by omega, ?_⟩
  rw [h4]
  unfold fval
  simp [List.getD_eq_getElem?_getD, h3]
set_option maxRecDepth 20000 in
set_option maxHeartbeats 1600000 in
theorem cls_cmp (W : World) (B p bx k : Nat) (hk : k < 3) (hbx : W.cell? ⟨bx, 0, none⟩ = some (.int .i64 k)) (hbl : bx < W.heap.size) (hB : B ≤ W.heap.size) (x y : It) (hx : Ints W B x.A x.n x.xs) (hy : Ints W B y.A y.n y.xs) (px : IsP x.dat) (py : IsP y.dat) :
    Calls Tryz.prog 44 #[ctV p x, ctV p y, .pointer (some ⟨bx, 0, none⟩)] W fun e w' => e = .returned (.int .i64 (cmpI (fval x k) (fval y k))) ∧ ∃ q os', w' = grow (W.drewN q) os' := by
  obtain ⟨b1, o1, hA1, hb1, hn1, hc1⟩ := field_at hx px hk
  obtain ⟨b2, o2, hA2, hb2, hn2, hc2⟩ := field_at hy py hk
  have HC := Lib.hid (cmp_int (fval x k) (fval y k))
  generalize cmpI (fval x k) (fval y k) = z at *
  generalize fval x k = vx at *
  generalize fval y k = vy at *
  have hvx : ctV p x = .agg #[.int .i64 x.id, .slice x.A x.n x.c, .pointer (some ⟨p, 0, none⟩)] := rfl
  have hvy : ctV p y = .agg #[.int .i64 y.id, .slice y.A y.n y.c, .pointer (some ⟨p, 0, none⟩)] := rfl
  rw [hvx, hvy]
  clear hvx hvy hx hy px py
  obtain ⟨W2, hW2⟩ : ∃ W2, (W.alloc (.cells #[.int .i64 x.id, .slice x.A x.n x.c, .pointer (some ⟨p, 0, none⟩)] 61)).alloc (.cells #[.int .i64 y.id, .slice y.A y.n y.c, .pointer (some ⟨p, 0, none⟩)] 61) = W2 := ⟨_, rfl⟩
  have hbe : Below W.heap.size W W2 := by rw [← hW2]; exact ((Below.refl _ W).alloc (Nat.le_refl _) _).alloc (by simp) _
  have e1 : W2.cell? ⟨W.heap.size, 1, none⟩ = some (.slice x.A x.n x.c) := by rw [← hW2]; exact (((Box3.new W p x 61).alloc _).2.2.1)
  have e2 : W2.cell? ⟨W.heap.size + 1, 1, none⟩ = some (.slice y.A y.n y.c) := by
    rw [← hW2]
    have h := (Box3.new (W.alloc (.cells #[.int .i64 x.id, .slice x.A x.n x.c, .pointer (some ⟨p, 0, none⟩)] 61)) p y 61).2.2.1
    rwa [World.size_alloc] at h
  have f1 := (hbe.cell (p := ⟨b1, o1 + k, none⟩) (by show b1 < _; omega)).trans hc1
  have f2 := (hbe.cell (p := ⟨b2, o2 + k, none⟩) (by show b2 < _; omega)).trans hc2
  have fb := (hbe.cell (p := ⟨bx, 0, none⟩) hbl).trans hbx
  have HG : Hid (∀ q, ∃ q' os', W2.drewN q = grow (W.drewN q') os') := Lib.hid fun q => ⟨q, _, by rw [← hW2, alloc_eq_grow, alloc_eq_grow, grow_grow]; rfl⟩
  rw [hA1] at e1 hW2 ⊢
  rw [hA2] at e2 hW2 ⊢
  have h1' : (k : Int) < (x.n : Int) := by omega
  have h2' : (k : Int) < (y.n : Int) := by omega
  clear hbe hc1 hc2 hbx hb1 hb2 hbl hB
  go_enter Tryz.func44, Tryz.ntmps44
  go_wp2_with fail
  try rw [hW2]
  clear hW2
  go_quiet ((go_at_call 45; refine Calls.quiet_of_same (HC.out _)))
  go_wp2
  go_ret
  exact ⟨rfl, HG.out _⟩
/-- What is asked of the function that compares. -/
def CmpP (w : World) (v : Value) (p : Nat) (Q : It → Prop) (key : It → Int) (g : Nat) (cb : Array Value) : Prop :=
  ∀ W, (∀ k, k < w.heap.size → v.ownBlock ≠ some k → W.heap[k]? = w.heap[k]?) → w.heap.size ≤ W.heap.size → ∀ x y, Q x → Q y → Calls Tryz.prog g (#[ctV p x, ctV p y] ++ cb) W fun e w' => e = .returned (.int .i64 (cmpI (key x) (key y))) ∧ ∃ q os', w' = grow (W.drewN q) os'
def SortPost (w : World) (B p : Nat) (v : Value) (l : List It) (key : It → Int) (e : Ending) (w' : World) : Prop :=
  e = .returned (.tuple #[]) ∧ OwnG 61 (ctCells p) 3 w' B v (sortL (ltK key) l) ∧ w.grownBy w' v.ownBlock
set_option maxRecDepth 20000 in
set_option maxHeartbeats 1600000 in
theorem stable_own (w : World) (B p : Nat) (A : Option Addr) (n c : Nat) (l : List It) (h : OwnG 61 (ctCells p) 3 w B (.slice A n c) l) (hn : n ≤ 16) (Q : It → Prop) (hQ : ∀ x ∈ l, Q x) (key : It → Int) (g : Nat) (cb : Array Value)
    (eg : ∀ args w, (callFunc g args).run Tryz.prog w = .ok (.enter g args) w) (hcmp : CmpP w (.slice A n c) p Q key g cb) :
    Calls Tryz.prog 75 #[.slice A n c, .int .i64 n, .func (.func g) #[] cb] w (SortPost w B p (.slice A n c) l key) := by
  have HI := Lib.hid (ins_own w B p A n c l h (by omega) Q hQ key g cb eg hcmp)
  clear h hQ hcmp eg
  go_enter Tryz.func75, Tryz.ntmps75
  go_wp2
  go_loopw [7, 8] (fun a b wr => a = .int .i64 0 ∧ b = .int .i64 20 ∧ wr = w) (fun _ _ _ => 0)
  case atStart => exact ⟨rfl, rfl, rfl⟩
  case round =>
    obtain ⟨rfl, rfl, rfl⟩ := hrel
    have h20 : ¬ ((20 : Int) ≤ (n : Int)) := by omega
    go_wp2_with fail
    refine HI.out.mono ?_
    rintro e w2 ⟨rfl, ho, hg⟩
    have HO := Lib.hid ho
    have HG := Lib.hid hg
    clear ho hg HI
    go_wp2
    go_loopw [6] (fun a wq => a = .int .i64 20 ∧ wq = w2) (fun _ _ => 0)
    case atStart => exact ⟨rfl, rfl⟩
    case round =>
      obtain ⟨rfl, rfl⟩ := hrel
      have h21 : ¬ ((20 : Int) < (n : Int)) := by omega
      go_wp2
      go_end0
      exact ⟨rfl, HO.out, HG.out⟩
set_option maxRecDepth 20000 in
theorem sortStable_own (w : World) (B p : Nat) (A : Option Addr) (n c : Nat) (l : List It) (h : OwnG 61 (ctCells p) 3 w B (.slice A n c) l) (hn : n ≤ 16) (Q : It → Prop) (hQ : ∀ x ∈ l, Q x) (key : It → Int) (g : Nat) (cb : Array Value)
    (eg : ∀ args w, (callFunc g args).run Tryz.prog w = .ok (.enter g args) w) (hcmp : CmpP w (.slice A n c) p Q key g cb) :
    Calls Tryz.prog 55 #[.slice A n c, .func (.func g) #[] cb] w (SortPost w B p (.slice A n c) l key) := by
  have HI := Lib.hid (stable_own w B p A n c l h hn Q hQ key g cb eg hcmp)
  clear h hQ hcmp eg
  go_enter Tryz.func55, Tryz.ntmps55
  go_wp2_with fail
  refine HI.out.mono ?_
  rintro e w2 ⟨rfl, ho, hg⟩
  have HO := Lib.hid ho
  have HG := Lib.hid hg
  clear ho hg HI
  go_wp2
  go_end0
  exact ⟨rfl, HO.out, HG.out⟩
set_option maxRecDepth 20000 in
theorem collect_own (w : World) (Bs p : Nat) (A : Option Addr) (n c : Nat) (its : List It) (hn : n ≤ 1048576) (hBs : Bs < w.heap.size) (hc : w.cell? ⟨Bs, 0, none⟩ = some (.slice A n c)) (hI : ReadG (ctCells p) 3 w w.heap.size A n its) :
    Calls Tryz.prog 54 #[.func (.func 56) #[] #[.pointer (some ⟨Bs, 0, none⟩)]] w fun e w' => ∃ v, e = .returned v ∧ OwnG 61 (ctCells p) 3 w' w.heap.size v its ∧ Below w.heap.size w w' := by
  obtain rfl := hI.len
  have HA := Lib.hid (callsIn_wide.1 (appSeq_in Fence.wide 3 trivial rfl (Nat.le_refl _) 56 #[.pointer (some ⟨Bs, 0, none⟩)] trivial (enters_of Tryz.func56 (by kernel_rfl) rfl) w.heap.size p its hn w (Nat.le_refl _)
    (vals_stops Fence.wide 2 trivial rfl (by decide) Bs w.heap.size p A its.length c its hn w hBs (Nat.le_refl _) hc hI)))
  clear hI hc hBs
  go_enter Tryz.func54, Tryz.ntmps54
  go_wp2_with fail
  refine HA.out.mono ?_
  rintro e w1 ⟨v, rfl, ho, hb⟩
  have HO := Lib.hid ho
  have HB := Lib.hid hb
  clear ho hb HA
  go_wp2
  go_ret
  exact ⟨_, rfl, HO.out, HB.out⟩
theorem ints_keep {w W : World} {B : Nat} {A : Option Addr} {n : Nat} {xs : List Int} (h : Ints w B A n xs) (hk : ∀ k, k < B → W.heap[k]? = w.heap[k]?) : Ints W B A n xs :=
  ⟨h.1, fun k hkn => by
    obtain ⟨b, off, ha, hb, hc⟩ := h.2 k hkn
    exact ⟨b, off, ha, hb, (World.cell?_of_block (hk b hb)).trans hc⟩⟩
set_option maxRecDepth 20000 in
set_option maxHeartbeats 1600000 in
theorem stableFunc_own (w : World) (Bs bx p : Nat) (A : Option Addr) (n c : Nat) (its : List It) (hn : n ≤ 16) (hBs : Bs < w.heap.size) (hc : w.cell? ⟨Bs, 0, none⟩ = some (.slice A n c)) (hI : ReadG (ctCells p) 3 w w.heap.size A n its) (Q : It → Prop) (hx : ∀ u ∈ its, Q u) (key : It → Int)
    (hcls : ∀ W, (∀ j, j < w.heap.size → W.heap[j]? = w.heap[j]?) → w.heap.size ≤ W.heap.size → ∀ x y, Q x → Q y → Calls Tryz.prog 44 #[ctV p x, ctV p y, .pointer (some ⟨bx, 0, none⟩)] W fun e w' => e = .returned (.int .i64 (cmpI (key x) (key y))) ∧ ∃ q os', w' = grow (W.drewN q) os') :
    Calls Tryz.prog 42 #[.func (.func 56) #[] #[.pointer (some ⟨Bs, 0, none⟩)], .func (.func 44) #[] #[.pointer (some ⟨bx, 0, none⟩)]] w fun e w' => (∃ v, e = .returned v ∧ OwnG 61 (ctCells p) 3 w' w.heap.size v (sortL (ltK key) its)) ∧ Below w.heap.size w w' := by
  have HC := Lib.hid (collect_own w Bs p A n c its (by omega) hBs hc hI)
  have HLen := Lib.hid hI.len
  have HS : Hid (∀ w1 A1 c1, Below w.heap.size w w1 → OwnG 61 (ctCells p) 3 w1 w.heap.size (.slice A1 its.length c1) its → Calls Tryz.prog 55 #[.slice A1 its.length c1, .func (.func 44) #[] #[.pointer (some ⟨bx, 0, none⟩)]] w1 (SortPost w1 w.heap.size p (.slice A1 its.length c1) its key)) := Lib.hid fun w1 A1 c1 hb ho =>
    sortStable_own w1 w.heap.size p A1 its.length c1 its ho (by rw [hI.len]; exact hn) Q hx key _ _ (enters_of Tryz.func44 (by kernel_rfl) rfl) (fun W hW hsz x y qx qy =>
      hcls W (fun j hj => by rw [hW j (Nat.lt_of_lt_of_le hj hb.size) (fun e => by have := ho.lows j e; omega), hb.block j hj]) (Nat.le_trans hb.size hsz) x y qx qy)
  clear hI hx hc hcls
  go_enter Tryz.func42, Tryz.ntmps42
  go_wp2_with fail
  refine HC.out.mono ?_
  rintro e w1 ⟨v, rfl, ho, hb⟩
  obtain ⟨A1, c1, rfl, -, -⟩ := ho.shape
  have HS1 := Lib.hid (HS.out w1 A1 c1 hb ho)
  have HO := Lib.hid ho
  have HB := Lib.hid hb
  clear ho hb HC HS
  go_wp2_with fail
  refine HS1.out.mono ?_
  rintro e w2 ⟨rfl, ho2, hg⟩
  have HO2 := Lib.hid ho2
  have HB2 := Lib.hid (HB.out.grown hg HB.out.size (fun k hk => HO.out.lows k hk))
  clear ho2 hg HS1
  go_wp2
  go_ret
  exact ⟨⟨_, rfl, HO2.out⟩, HB2.out⟩
theorem vals_c (a : Option Addr) (len cap : Nat) (w : World) :
    Calls Tryz.prog 43 #[.slice a len cap] w fun e w' => e = .returned (.func (.func 56) #[] #[.pointer (some ⟨w.heap.size, 0, none⟩)]) ∧ w' = w.alloc (.cells #[.slice a len cap] 46) :=
  callsIn_wide.1 (vals_in Fence.wide 1 trivial rfl a len cap w)
set_option maxRecDepth 20000 in
set_option maxHeartbeats 1600000 in
theorem iSortedByG (w : World) (p : Nat) (k : Int) (A : Option Addr) (n c : Nat) (its : List It) (hn : n ≤ 16) (hI : ReadG (ctCells p) 3 w w.heap.size A n its) (Q : It → Prop) (hx : ∀ u ∈ its, Q u) (key : It → Int)
    (hcls : ∀ W2 bx, Below w.heap.size w W2 → W2.cell? ⟨bx, 0, none⟩ = some (.int .i64 k) → bx < W2.heap.size → ∀ W, (∀ j, j < W2.heap.size → W.heap[j]? = W2.heap[j]?) → W2.heap.size ≤ W.heap.size → ∀ x y, Q x → Q y → Calls Tryz.prog 44 #[ctV p x, ctV p y, .pointer (some ⟨bx, 0, none⟩)] W fun e w' => e = .returned (.int .i64 (cmpI (key x) (key y))) ∧ ∃ q os', w' = grow (W.drewN q) os') :
    Calls Tryz.prog 33 #[.slice A n c, .int .i64 k] w fun e w' => (∃ v, e = .returned v ∧ OwnG 61 (ctCells p) 3 w' w.heap.size v (sortL (ltK key) its)) ∧ Below w.heap.size w w' := by
  obtain ⟨W2, hW2⟩ : ∃ W2, (w.alloc (.cells #[.int .i64 k] 3)).alloc (.cells #[.slice A n c] 46) = W2 := ⟨_, rfl⟩
  have hbe : Below w.heap.size w W2 := by rw [← hW2]; exact ((Below.refl _ w).alloc (Nat.le_refl _) _).alloc (by simp) _
  have hs : W2.heap.size = w.heap.size + 2 := by rw [← hW2]; simp
  have e1 : W2.cell? ⟨w.heap.size, 0, none⟩ = some (.int .i64 k) := by rw [← hW2]; exact ((Boxed.new w 3 (.int .i64 k)).alloc _).cell
  have e2 : W2.cell? ⟨w.heap.size + 1, 0, none⟩ = some (.slice A n c) := by
    rw [← hW2]
    have h := (Boxed.new (w.alloc (.cells #[.int .i64 k] 3)) 46 (.slice A n c)).cell
    rwa [World.size_alloc] at h
  have HC := Lib.hid (stableFunc_own W2 (w.heap.size + 1) w.heap.size p A n c its hn (by omega) e2 ((hI.below hbe).more (by omega)) Q hx key (hcls W2 w.heap.size hbe e1 (by omega)))
  have HB := Lib.hid hbe
  have HS := Lib.hid hs
  clear hI hx hbe e1 e2 hs hcls
  go_enter Tryz.func33, Tryz.ntmps33
  go_wp2_with fail
  refine (vals_c A n c _).mono ?_
  rintro e w1 ⟨rfl, rfl⟩
  go_wp2_with fail
  try rw [hW2]
  refine HC.out.mono ?_
  rintro e w3 ⟨⟨v, rfl, ho⟩, hb⟩
  have HO := Lib.hid (ho.low (B' := w.heap.size) (by have := HS.out; omega))
  have HB3 := Lib.hid (HB.out.trans (hb.mono HB.out.size))
  clear ho hb HC hW2
  go_wp2
  go_ret
  exact ⟨⟨_, rfl, HO.out⟩, HB3.out⟩
/-- At a field of valid items. -/
theorem iSortedBy (w : World) (B p k : Nat) (hk : k < 3) (A : Option Addr) (n c : Nat) (its : List It) (hn : n ≤ 16) (hI : ReadG (ctCells p) 3 w w.heap.size A n its) (hB : B ≤ w.heap.size) (hx : ∀ u ∈ its, Ints w B u.A u.n u.xs ∧ IsP u.dat) :
    Calls Tryz.prog 33 #[.slice A n c, .int .i64 k] w fun e w' => (∃ v, e = .returned v ∧ OwnG 61 (ctCells p) 3 w' w.heap.size v (sortL (ltK fun u => fval u k) its)) ∧ Below w.heap.size w w' :=
  iSortedByG w p k A n c its hn hI (fun u => Ints w B u.A u.n u.xs ∧ IsP u.dat) hx (fun u => fval u k) fun W2 bx hb hbx hbl W hW hsz x y qx qy =>
    cls_cmp W B p bx k hk ((World.cell?_of_block (hW bx hbl)).trans hbx) (Nat.lt_of_lt_of_le hbl hsz) (Nat.le_trans hB (Nat.le_trans hb.size hsz)) x y
      (ints_keep qx.1 fun j hj => by rw [hW j (Nat.lt_of_lt_of_le hj (Nat.le_trans hB hb.size)), hb.block j (Nat.lt_of_lt_of_le hj hB)])
      (ints_keep qy.1 fun j hj => by rw [hW j (Nat.lt_of_lt_of_le hj (Nat.le_trans hB hb.size)), hb.block j (Nat.lt_of_lt_of_le hj hB)]) qx.2 qy.2
/-- Without contestants, at whatever field. -/
theorem iSortedBy0 (w : World) (p : Nat) (k : Int) (A : Option Addr) (c : Nat) :
    Calls Tryz.prog 33 #[.slice A 0 c, .int .i64 k] w fun e w' => (∃ v, e = .returned v ∧ OwnG 61 (ctCells p) 3 w' w.heap.size v []) ∧ Below w.heap.size w w' :=
  iSortedByG w p k A 0 c [] (by decide) (ReadG.nil _ _ _) (fun _ => False) (fun u hu => by cases hu) (fun _ => 0) fun _ _ _ _ _ _ _ _ _ _ qx _ => qx.elim
end Go.Proofs.YtnbgmiiknndleaaGreat.num
namespace Go.Proofs.YtnbgmiiknndleaaGreat.num
set_option maxRecDepth 20000
open Go.RowKit
set_option linter.unusedVariables false
set_option linter.unusedSimpArgs false

/-- Trees whose wishes have no lists. -/
def NoLists : Tr → Prop
  | .base d => d.ls = [] ∧ d.ps = []
  | .dual a => NoLists a
  | .bin _ a b => NoLists a ∧ NoLists b
theorem lowTr_no : ∀ (r : List Int) (t : Tr), NoLists t → NoLists (lowTr t r)
  | [], t, h => h
  | b :: r, t, h => lowTr_no r _ ⟨h, rfl, rfl⟩
theorem lowT_no : ∀ f : List Int, NoLists (lowT f)
  | [] => ⟨rfl, rfl⟩
  | a :: r => lowTr_no r _ ⟨rfl, rfl⟩
theorem wiIn_no {w : World} {B B' : Nat} {t : Wi} (h : WiIn w B t) (h1 : t.ls = []) (h2 : t.ps = []) : WiIn w B' t := by
  refine ⟨h.k, h.f, h.v, ⟨h.l.1, fun k hk => ?_⟩, ⟨h.p.1, fun k p hk => ?_⟩⟩
  · have h3 := h.l.1
    rw [h1] at h3
    simp at h3
    omega
  · rw [h2] at hk
    simp at hk
theorem PartAt.noLists {w : World} {B B' lo : Nat} : ∀ {t : Tr} {p : Nat}, PartAt w B lo t p → NoLists t → PartAt w B' lo t p
  | .base d, p, ⟨h0, h1, t, v, h2, h3, h4, h5, h6, h7⟩, hn => ⟨h0, h1, t, v, h2, h3, h4, wiIn_no h5 (by rw [← h3] at hn; exact hn.1) (by rw [← h3] at hn; exact hn.2), h6, h7⟩
  | .dual a, p, ⟨h0, h1, t, q, h2, h3, h4, h5, h6⟩, hn => ⟨h0, h1, t, q, h2, h3, h4, wiIn_no h5 h3.l h3.p, PartAt.noLists h6 hn⟩
  | .bin op a b, p, ⟨h0, h1, h', t, q, r, h2, h3, h4, h5, h6, h7⟩, hn => ⟨h0, h1, h', t, q, r, h2, h3, h4, wiIn_no h5 h3.l h3.p, PartAt.noLists h6 hn.1, PartAt.noLists h7 hn.2⟩
/-- What stands fast: the items' values below B, the tree from lo on, as in w1; the search's own block between them. -/
structure SrC (w1 : World) (B S lo p : Nat) (f : List Int) (fA : Option Addr) (fn : Nat) : Prop where
  bs : B ≤ S
  sl : S < lo
  ll : lo ≤ w1.heap.size
  tr : PartAt w1 B lo (lowT f) p
  fl : FL f
  fi : Ints w1 B fA fn f
/-- A world in which it stands as in w1. -/
structure SrW (w1 : World) (B lo : Nat) (W : World) : Prop where
  low : ∀ k, k < B → W.heap[k]? = w1.heap[k]?
  trk : ∀ k, lo ≤ k → k < w1.heap.size → W.heap[k]? = w1.heap[k]?
  sz : w1.heap.size ≤ W.heap.size
section
variable {w1 W W' : World} {B S lo p : Nat} {f : List Int} {fA : Option Addr} {fn fc : Nat}
theorem SrW.part (h : SrW w1 B lo W) (c : SrC w1 B S lo p f fA fn) : PartAt W B lo (lowT f) p :=
  c.tr.kept h.sz fun k hk => by
    rcases hk with hk | hk
    · exact h.low k hk
    · exact h.trk k hk.1 hk.2
theorem SrW.ints (h : SrW w1 B lo W) {A : Option Addr} {n : Nat} {xs : List Int} (hx : Ints w1 B A n xs) : Ints W B A n xs := ints_keep hx h.low
theorem SrW.drew (h : SrW w1 B lo W) : SrW w1 B lo W.drew := ⟨h.low, h.trk, h.sz⟩
theorem SrW.of (h : SrW w1 B lo W) (c : SrC w1 B S lo p f fA fn) (hs : w1.heap.size ≤ W'.heap.size) (hb : ∀ k, k < w1.heap.size → k ≠ S → W'.heap[k]? = W.heap[k]?) : SrW w1 B lo W' := by
  have h1 := c.bs
  have h2 := c.sl
  have h3 := c.ll
  exact ⟨fun k hk => (hb k (by omega) (by omega)).trans (h.low k hk), fun k hk hk2 => (hb k hk2 (by omega)).trans (h.trk k hk hk2), hs⟩
theorem SrW.below (h : SrW w1 B lo W) (c : SrC w1 B S lo p f fA fn) (hb : Below W.heap.size W W') : SrW w1 B lo W' := h.of c (Nat.le_trans h.sz hb.size) fun k hk _ => hb.block k (Nat.lt_of_lt_of_le hk h.sz)
theorem SrW.grown (h : SrW w1 B lo W) (c : SrC w1 B S lo p f fA fn) {row : Option Nat} (hg : W.grownBy W' row) (hr : ∀ k, row = some k → w1.heap.size ≤ k) : SrW w1 B lo W' :=
  h.of c (Nat.le_trans h.sz hg.size) fun k hk _ => hg.block k (Nat.lt_of_lt_of_le hk h.sz) fun e => by have := hr k e.symm; omega
theorem SrW.set (h : SrW w1 B lo W) (c : SrC w1 B S lo p f fA fn) (j : Nat) (v : Value) : SrW w1 B lo (W.setCell ⟨S, j, none⟩ v) := h.of c (by simpa using h.sz) fun k _ hne => heap_setCell_other _ _ _ _ hne
end
/-- What a step keeps: all that lay in W but the search's block and the row of what was found. -/
structure SrK (S B : Nat) (W : World) (fv : Value) (W' : World) : Prop where
  sz : W.heap.size ≤ W'.heap.size
  kp : ∀ k, k < W.heap.size → k ≠ S → fv.ownBlock ≠ some k → W'.heap[k]? = W.heap[k]?
  bl : Below B W W'
section
variable {S B : Nat} {W W' W'' : World} {fv : Value}
theorem SrK.refl (S B : Nat) (W : World) (fv : Value) : SrK S B W fv W := ⟨Nat.le_refl _, fun _ _ _ _ => rfl, Below.refl _ _⟩
theorem SrK.below (h : SrK S B W fv W') (hB : B ≤ W.heap.size) (hb : Below W'.heap.size W' W'') : SrK S B W fv W'' :=
  ⟨Nat.le_trans h.sz hb.size, fun k hk h1 h2 => (hb.block k (Nat.lt_of_lt_of_le hk h.sz)).trans (h.kp k hk h1 h2), h.bl.trans (hb.mono (Nat.le_trans hB h.sz))⟩
theorem SrK.alloc (h : SrK S B W fv W') (hB : B ≤ W.heap.size) (o : Obj) : SrK S B W fv (W'.alloc o) := h.below hB ((Below.refl _ W').alloc (Nat.le_refl _) o)
theorem SrK.drew (h : SrK S B W fv W') (hB : B ≤ W.heap.size) : SrK S B W fv W'.drew := h.below hB (Below.refl _ W').drew
theorem SrK.set (h : SrK S B W fv W') (hB : B ≤ S) (j : Nat) (v : Value) : SrK S B W fv (W'.setCell ⟨S, j, none⟩ v) :=
  ⟨by simpa using h.sz, fun k hk h1 h2 => (heap_setCell_other _ _ _ _ h1).trans (h.kp k hk h1 h2), h.bl.setCell (p := ⟨S, j, none⟩) hB v⟩
theorem SrK.grown (h : SrK S B W fv W') (hB : B ≤ W.heap.size) (hg : W'.grownBy W'' fv.ownBlock) (hlo : ∀ k, fv.ownBlock = some k → B ≤ k) : SrK S B W fv W'' :=
  ⟨Nat.le_trans h.sz hg.size, fun k hk h1 h2 => (hg.block k (Nat.lt_of_lt_of_le hk h.sz) (fun e => h2 e.symm)).trans (h.kp k hk h1 h2), h.bl.grown hg (Nat.le_trans hB h.sz) hlo⟩
end
/-- What a step that goes over to a new row keeps. -/
structure SrR (S B : Nat) (W : World) (fv : Value) (W' : World) (fv' : Value) : Prop where
  k : SrK S B W fv W'
  nb : fv'.ownBlock = fv.ownBlock ∨ ∀ g, fv'.ownBlock = some g → W.heap.size ≤ g
section
variable {S B : Nat} {W W' W'' : World} {fv fv' fv'' : Value}
theorem SrR.refl (S B : Nat) (W : World) (fv : Value) : SrR S B W fv W fv := ⟨SrK.refl _ _ _ _, .inl rfl⟩
theorem SrR.trans (h : SrR S B W fv W' fv') (h' : SrR S B W' fv' W'' fv'') : SrR S B W fv W'' fv'' := by
  refine ⟨⟨Nat.le_trans h.k.sz h'.k.sz, fun k hk h1 h2 => ?_, h.k.bl.trans h'.k.bl⟩, ?_⟩
  · refine (h'.k.kp k (Nat.lt_of_lt_of_le hk h.k.sz) h1 fun e => ?_).trans (h.k.kp k hk h1 h2)
    rcases h.nb with q | q
    · exact h2 (q ▸ e)
    · have := q k e
      omega
  · rcases h'.nb with q' | q'
    · rcases h.nb with q | q
      · exact .inl (q'.trans q)
      · exact .inr fun g hg => q g (q' ▸ hg)
    · exact .inr fun g hg => Nat.le_trans h.k.sz (q' g hg)
end
/-- The search in a world. -/
structure SrS (w1 : World) (B S lo p : Nat) (fA : Option Addr) (fn fc : Nat) (W : World) (fv : Value) (found : List It) (vis : Nat) : Prop where
  w : SrW w1 B lo W
  sb : W.heap[S]? = some (.cells #[.slice fA fn fc, fv, .int .i64 vis] 48 (0, 0))
  own : OwnG 61 (ctCells p) 3 W w1.heap.size fv found
  it : ∀ u ∈ found, Ints w1 B u.A u.n u.xs ∧ IsP u.dat
theorem SrS.below {w1 W W' : World} {B S lo p : Nat} {f : List Int} {fA : Option Addr} {fn fc : Nat} {fv : Value} {found : List It} {vis : Nat} (h : SrS w1 B S lo p fA fn fc W fv found vis) (c : SrC w1 B S lo p f fA fn) (hb : Below W.heap.size W W') : SrS w1 B S lo p fA fn fc W' fv found vis :=
  ⟨h.w.below c hb, (hb.block S (Array.getElem?_eq_some_iff.1 h.sb).1).trans h.sb, h.own.below hb, h.it⟩
theorem SrR.below {S B : Nat} {W W' W'' : World} {fv fv' : Value} (h : SrR S B W fv W' fv') (hB : B ≤ W.heap.size) (hb : Below W'.heap.size W' W'') : SrR S B W fv W'' fv' := ⟨h.k.below hB hb, h.nb⟩
/-- A box in a world: its row is neither the search's block nor what was found. -/
structure BoxAt (w1 : World) (B S p : Nat) (W : World) (fv : Value) (A : Option Addr) (n : Nat) (box : List It) : Prop where
  r : ReadG (ctCells p) 3 W W.heap.size A n box
  ne : 0 < n → ∀ b off, A = some ⟨b, off, none⟩ → b ≠ S ∧ fv.ownBlock ≠ some b ∧ b < W.heap.size
  it : ∀ u ∈ box, Ints w1 B u.A u.n u.xs ∧ IsP u.dat
theorem BoxAt.step {w1 : World} {B S p : Nat} {W W' : World} {fv fv' : Value} {A : Option Addr} {n : Nat} {box : List It} (h : BoxAt w1 B S p W fv A n box) (hr : SrR S B W fv W' fv') : BoxAt w1 B S p W' fv' A n box := by
  refine ⟨⟨h.r.len, fun k x hk => ?_⟩, fun h0 b off e => ?_, h.it⟩
  · obtain ⟨b, off, ha, hb, hc⟩ := h.r.at' k x hk
    obtain ⟨h1, h2, h3⟩ := h.ne (by have h4 := (List.getElem?_eq_some_iff.1 hk).1; have h5 := h.r.len; omega) b off ha
    exact ⟨b, off, ha, Nat.lt_of_lt_of_le hb hr.k.sz, fun j v hj => (World.cell?_of_block (a := ⟨b, off + k * 3 + j, none⟩) (hr.k.kp b h3 h1 h2)).trans (hc j v hj)⟩
  · obtain ⟨h1, h2, h3⟩ := h.ne h0 b off e
    refine ⟨h1, fun e2 => ?_, Nat.lt_of_lt_of_le h3 hr.k.sz⟩
    rcases hr.nb with q | q
    · exact h2 (q ▸ e2)
    · have := q b e2
      omega
/-- A world cut off behind its first n blocks. -/
def trunc (w : World) (n : Nat) : World := { w with heap := w.heap.extract 0 n }
theorem trunc_size {w : World} {n : Nat} (h : n ≤ w.heap.size) : (trunc w n).heap.size = n := by
  unfold trunc
  simp only [Array.size_extract]
  omega
theorem trunc_heap {w : World} {n k : Nat} (h : n ≤ w.heap.size) (hk : k < n) : (trunc w n).heap[k]? = w.heap[k]? := by
  unfold trunc
  simp only [Array.getElem?_extract]
  rw [if_pos (by omega), Nat.zero_add]
theorem tmp_read (w : World) (p : Nat) (x : It) (B : Nat) (hB : w.heap.size < B) : ReadG (ctCells p) 3 (w.alloc (.cells #[.int .i64 x.id, .slice x.A x.n x.c, .pointer (some ⟨p, 0, none⟩)] 61)) B (some ⟨w.heap.size, 0, none⟩) 1 [x] := by
  refine ⟨rfl, fun k y hk => ⟨_, _, rfl, hB, fun j v hj => ?_⟩⟩
  obtain ⟨rfl, rfl⟩ : k = 0 ∧ y = x := by
    cases k with
    | zero => exact ⟨rfl, (Option.some.inj hk).symm⟩
    | succ k => simp at hk
  rw [Nat.zero_mul, Nat.add_zero, Nat.zero_add, World.cell?_alloc_at _ _ _ _ rfl]
  simpa [ctCells] using hj
theorem ReadG.drop {α : Type} {f : α → List Value} {s : Nat} {w : World} {B b off n k : Nat} {l : List α} (h : ReadG f s w B (some ⟨b, off, none⟩) n l) (hk : k ≤ n) : ReadG f s w B (some ⟨b, off + k * s, none⟩) (n - k) (l.drop k) := by
  refine ⟨by rw [List.length_drop, h.len], fun j x hj => ?_⟩
  rw [List.getElem?_drop] at hj
  obtain ⟨b', off', e, hb, hc⟩ := h.at' (k + j) x hj
  cases e
  refine ⟨b, _, rfl, hb, fun i v hi => ?_⟩
  rw [← hc i v hi]
  congr 2
  rw [Nat.add_mul]
  omega
theorem min_in : ∀ {a b : List Int}, (∀ v ∈ a, 0 ≤ v ∧ v ≤ 9) → (∀ v ∈ b, 0 ≤ v ∧ v ≤ 9) → ∀ v ∈ minL a b, 0 ≤ v ∧ v ≤ 9
  | [], _, _, _, v, hv => by simp [minL] at hv
  | x :: r, [], _, _, v, hv => by simp [minL] at hv
  | x :: r, y :: q, ha, hb, v, hv => by
    unfold minL at hv
    rw [List.zipWith_cons_cons] at hv
    rcases List.mem_cons.1 hv with rfl | hv
    · have h1 := ha x (by simp)
      have h2 := hb y (by simp)
      omega
    · exact min_in (a := r) (b := q) (fun v hv => ha v (by simp [hv])) (fun v hv => hb v (by simp [hv])) v hv
theorem corn_in {l : List Dt} : (∀ d ∈ l, ∀ v ∈ d.2, 0 ≤ v ∧ v ≤ 9) → ∀ v ∈ cornD l, 0 ≤ v ∧ v ≤ 9 := by
  refine snoc_ind (P := fun l : List Dt => (∀ d ∈ l, ∀ v ∈ d.2, 0 ≤ v ∧ v ≤ 9) → ∀ v ∈ cornD l, 0 ≤ v ∧ v ≤ 9) (fun _ v hv => by simp [cornD] at hv) (fun l d ih hd => ?_) l
  by_cases h : l = []
  · subst h
    exact hd d (by simp)
  · rw [corn_snoc h]
    exact min_in (ih fun x hx => hd x (by simp [hx])) (hd d (by simp))
theorem corn_isP {l : List Dt} (h : l ≠ []) (hd : ∀ d ∈ l, IsP d) : IsP ((0 : Int), cornD l) := ⟨corn_in fun d hm v hv => (hd d hm).1 v hv, ⟨by show (0 : Int) ≤ 0; decide, by show (0 : Int) ≤ 99; decide⟩, corn_len h fun d hm => (hd d hm).2.2⟩
end Go.Proofs.YtnbgmiiknndleaaGreat.num
namespace Go.Proofs.YtnbgmiiknndleaaGreat.num
set_option maxRecDepth 20000
open Go.RowKit
set_option linter.unusedVariables false
set_option linter.unusedSimpArgs false

theorem box3_frow {w w' : World} {g p : Nat} {t : It} {row : Option Nat} (h : Box3 w g p t) (hg : w.grownBy w' row) (hne : row ≠ some g) : Box3 w' g p t := by
  have e : w'.heap[g]? = w.heap[g]? := hg.block g h.1 fun e => hne e.symm
  exact ⟨Nat.lt_of_lt_of_le h.1 hg.size, (World.cell?_of_block e).trans h.2.1, (World.cell?_of_block e).trans h.2.2.1, (World.cell?_of_block e).trans h.2.2.2⟩
theorem box3_set {w : World} {g p S j : Nat} {t : It} {v : Value} (h : Box3 w g p t) (hne : g ≠ S) : Box3 (w.setCell ⟨S, j, none⟩ v) g p t := by
  have e : (w.setCell ⟨S, j, none⟩ v).heap[g]? = w.heap[g]? := heap_setCell_other _ _ _ _ hne
  exact ⟨by simpa using h.1, (World.cell?_of_block e).trans h.2.1, (World.cell?_of_block e).trans h.2.2.1, (World.cell?_of_block e).trans h.2.2.2⟩
theorem sr_cells {w : World} {S : Nat} {v0 v1 v2 : Value} {T : TypeId} (h : w.heap[S]? = some (.cells #[v0, v1, v2] T (0, 0))) : (w.cell? ⟨S, 0, none⟩ = some v0 ∧ w.cell? ⟨S, 1, none⟩ = some v1 ∧ w.cell? ⟨S, 2, none⟩ = some v2) ∧ w.frozen? ⟨S, 0, none⟩ = false ∧ w.frozen? ⟨S, 1, none⟩ = false ∧ w.frozen? ⟨S, 2, none⟩ = false := by
  refine ⟨⟨?_, ?_, ?_⟩, ?_, ?_, ?_⟩ <;> simp [World.cell?, World.frozen?, h]
theorem sr_set {w : World} {S : Nat} {v0 v1 v2 u : Value} {T : TypeId} (h : w.heap[S]? = some (.cells #[v0, v1, v2] T (0, 0))) : (w.setCell ⟨S, 1, none⟩ u).heap[S]? = some (.cells #[v0, u, v2] T (0, 0)) ∧ (w.setCell ⟨S, 2, none⟩ u).heap[S]? = some (.cells #[v0, v1, u] T (0, 0)) := by
  constructor
  · have := heap_setCell_same w S 1 _ _ u h
    simpa using this
  · have := heap_setCell_same w S 2 _ _ u h
    simpa using this
def LookOut (w1 : World) (B S lo p : Nat) (f : List Int) (fA : Option Addr) (fn fc : Nat) (W : World) (fv : Value) (found : List It) (vis : Nat) (x : It) (e : Ending) (w' : World) : Prop :=
  e = .returned (.tuple #[]) ∧ ∃ fv' found', SrS w1 B S lo p fA fn fc w' fv' found' (vis + 1) ∧ (found'.map It.dat, vis + 1) = lookD f (found.map It.dat, vis) x.dat ∧ SrR S B W fv w' fv'
theorem bestB_bel {f : List Int} (hf : FL f) (found : List It) (x : It) : bestB (lowT f) (found.map It.dat) x.dat = !found.any fun y => belF f y.xs x.xs := by
  unfold bestB
  rw [List.all_map, List.not_any_eq_all_not]
  congr 1
  funext y
  show (!btD (lowT f) y.dat x.dat) = _
  rw [low_beats hf.1]
  rfl
set_option maxRecDepth 20000 in
set_option maxHeartbeats 6400000 in
theorem iLook (w1 : World) (B S lo p : Nat) (f : List Int) (fA : Option Addr) (fn fc : Nat) (C : SrC w1 B S lo p f fA fn) (W : World) (fv : Value) (found : List It) (vis : Nat) (h : SrS w1 B S lo p fA fn fc W fv found vis) (x : It) (hx : Ints w1 B x.A x.n x.xs ∧ IsP x.dat) (hn : found.length ≤ 64) (hv : vis ≤ 64) :
    Calls Tryz.prog 34 #[.pointer (some ⟨S, 0, none⟩), ctV p x] W (LookOut w1 B S lo p f fA fn fc W fv found vis x) := by
  obtain ⟨Af, cf, rfl, -, -⟩ := h.own.shape
  obtain ⟨nf, hnf⟩ : ∃ nf, found.length = nf := ⟨_, rfl⟩
  rw [hnf] at h ⊢
  have HC := Lib.hid C
  have HH := Lib.hid h
  have HX := Lib.hid hx
  have HNf := Lib.hid hnf
  have hB : B ≤ w1.heap.size := by have h1 := C.bs; have h2 := C.sl; have h3 := C.ll; omega
  have hBW : B ≤ W.heap.size := Nat.le_trans hB h.w.sz
  have hSW : S < W.heap.size := (Array.getElem?_eq_some_iff.1 h.sb).1
  have hS1 : S < w1.heap.size := by have h2 := C.sl; have h3 := C.ll; omega
  have hlow : ∀ k, (Value.slice Af nf cf).ownBlock = some k → w1.heap.size ≤ k ∧ k < W.heap.size := fun k hk => ⟨h.own.lows k hk, h.own.tops k hk⟩
  have HLow := Lib.hid hlow
  have HISB : Hid (∀ W', SrW w1 B lo W' → OwnG 61 (ctCells p) 3 W' w1.heap.size (.slice Af nf cf) found → Calls Tryz.prog 31 #[.slice Af nf cf, .agg #[.int .i64 x.id, .slice x.A x.n x.c, .pointer (some ⟨p, 0, none⟩)]] W' fun e w' => e = .returned (.bool (bestB (lowT f) (found.map It.dat) x.dat)) ∧ Below W'.heap.size W' w') := Lib.hid fun W' hW' ho =>
    iBestOf W' B lo p (lowT f) Af nf cf found ⟨ho.read (ctCells_len p), fun u hu => ⟨hW'.ints (h.it u hu).1, (h.it u hu).2⟩, hW'.part C, Nat.le_trans hB hW'.sz⟩ (by omega) x (hW'.ints hx.1) hx.2
  have HDE : Hid (∀ W', SrW w1 B lo W' → OwnG 61 (ctCells p) 3 W' w1.heap.size (.slice Af nf cf) found → Calls Tryz.prog 46 #[.slice Af nf cf, .func (.func 47) #[.agg #[.int .i64 x.id, .slice x.A x.n x.c, .pointer (some ⟨p, 0, none⟩)]] #[]] W' fun e w' => (∃ v', e = .returned v' ∧ OwnG 61 (ctCells p) 3 w' w1.heap.size v' (found.filter fun u => !belF f x.xs u.xs) ∧ v'.ownBlock = (Value.slice Af nf cf).ownBlock) ∧ W'.grownBy w' (Value.slice Af nf cf).ownBlock) := Lib.hid fun W' hW' ho => by
    have hsz := trunc_size hW'.sz
    have hb0 : Below (trunc W' w1.heap.size).heap.size (trunc W' w1.heap.size) W' := ⟨rfl, rfl, rfl, by rw [hsz]; exact hW'.sz, fun k hk => (trunc_heap hW'.sz (by rw [hsz] at hk; exact hk)).symm⟩
    have hd := ctDelete (trunc W' w1.heap.size) W' p (.slice Af nf cf) found hb0 (by rw [hsz]; exact ho) (by omega) (.agg #[.int .i64 x.id, .slice x.A x.n x.c, .pointer (some ⟨p, 0, none⟩)]) (fun u => belF f x.xs u.xs) (fun W'' hW'' u hu => by
      have hw2 : SrW w1 B lo W'' := hW'.of C (by have h1 := hW''.size; rw [hsz] at h1; exact h1) fun k hk _ => by rw [hW''.block k (by rw [hsz]; exact hk), trunc_heap hW'.sz hk]
      have h9 := iBeats W'' B lo p (lowT f) x u (hw2.part C) (Nat.le_trans hB hw2.sz) (hw2.ints hx.1) (hw2.ints (h.it u hu).1) hx.2 (h.it u hu).2
      rw [low_beats C.fl.1] at h9
      exact h9)
    rw [hsz] at hd
    exact hd.mono fun e w' ⟨⟨v', h1, h2, h3⟩, h4, _⟩ => ⟨⟨v', h1, h2, h3⟩, h4⟩
  obtain ⟨z, hz⟩ : ∃ z, bestB (lowT f) (found.map It.dat) x.dat = z := ⟨_, rfl⟩
  rw [hz] at HISB
  have HZ : Hid ((found.any fun y => belF f y.xs x.xs) = !z) := Lib.hid (by rw [← hz, bestB_bel C.fl]; simp)
  have HStep := Lib.hid (look_step (f := f) (s := (found.map It.dat, vis)) (x := x) (k := vis) rfl rfl)
  have hvx : ctV p x = .agg #[.int .i64 x.id, .slice x.A x.n x.c, .pointer (some ⟨p, 0, none⟩)] := rfl
  rw [hvx]
  obtain ⟨wb, hwb⟩ : ∃ wb, W.alloc (.cells #[.int .i64 x.id, .slice x.A x.n x.c, .pointer (some ⟨p, 0, none⟩)] 61) = wb := ⟨_, rfl⟩
  have hbb : Below W.heap.size W wb := by rw [← hwb]; exact (Below.refl _ W).alloc (Nat.le_refl _) _
  have hbs : wb.heap.size = W.heap.size + 1 := by rw [← hwb]; simp
  have hXb : Box3 wb W.heap.size p x := by rw [← hwb]; exact Box3.new _ _ _ _
  have hSb := (hbb.block S hSW).trans h.sb
  have HKb := Lib.hid ((SrK.refl S B W (.slice Af nf cf)).below hBW hbb)
  have HOb := Lib.hid (h.own.below hbb)
  have HWb : Hid (SrW w1 B lo wb) := Lib.hid (h.w.of C (by rw [hbs]; exact Nat.le_trans h.w.sz (Nat.le_succ _)) fun k hk _ => hbb.block k (Nat.lt_of_lt_of_le hk h.w.sz))
  obtain ⟨gb, hgb⟩ : ∃ gb, W.heap.size = gb := ⟨_, rfl⟩
  rw [hgb] at hXb
  have hgS : gb ≠ S := by omega
  have HGb : Hid ((Value.slice Af nf cf).ownBlock ≠ some gb) := Lib.hid fun e => by have h1 := (hlow gb e).2; omega
  obtain ⟨⟨s0, s1, s2⟩, r0, r1, r2⟩ := sr_cells hSb
  obtain ⟨wc, hwc⟩ : ∃ wc, wb.setCell ⟨S, 2, none⟩ (.int .i64 ((vis : Int) + 1)) = wc := ⟨_, rfl⟩
  have hSc := (sr_set (u := .int .i64 ((vis : Int) + 1)) hSb).2
  rw [hwc] at hSc
  have hXc : Box3 wc gb p x := by rw [← hwc]; exact box3_set hXb hgS
  have HKc := Lib.hid (HKb.out.set C.bs 2 (.int .i64 ((vis : Int) + 1)))
  have HOc := Lib.hid (HOb.out.blocks (w' := wc) fun k hk => by rw [← hwc]; exact heap_setCell_other _ _ _ _ (by have h1 := (hlow k hk).1; show k ≠ S; omega))
  have HWc : Hid (SrW w1 B lo wc) := Lib.hid (HWb.out.of C (by rw [← hwc]; simpa using HWb.out.sz) fun k hk hne => by rw [← hwc]; exact heap_setCell_other _ _ _ _ hne)
  rw [hwc] at HKc
  have hvv : ((vis + 1 : Nat) : Int) = (vis : Int) + 1 := by omega
  have HV := Lib.hid hvv
  clear h hx hbb hz hvx hSb hvv C hlow hXb hnf
  go_enter Tryz.func34, Tryz.ntmps34
  go_wp2_with fail
  have hXc' := hXc
  obtain ⟨x_g, x_0, x_1, x_2⟩ := hXc'
  obtain ⟨⟨-, s1c, -⟩, -⟩ := sr_cells hSc
  clear hwb hwc s0 s1 s2 r0 r1 r2
  have hS0 : (fun w' => w'.cell? ⟨S, 1, none⟩ = some (.slice Af nf cf) ∧ w'.cell? ⟨gb, 0, none⟩ = some (.int .i64 x.id) ∧ w'.cell? ⟨gb, 1, none⟩ = some (.slice x.A x.n x.c) ∧ w'.cell? ⟨gb, 2, none⟩ = some (.pointer (some ⟨p, 0, none⟩))) wc.drew := ⟨s1c, x_0, x_1, x_2⟩
  refine wp_region_held (S := fun w' => w'.cell? ⟨S, 1, none⟩ = some (.slice Af nf cf) ∧ w'.cell? ⟨gb, 0, none⟩ = some (.int .i64 x.id) ∧ w'.cell? ⟨gb, 1, none⟩ = some (.slice x.A x.n x.c) ∧ w'.cell? ⟨gb, 2, none⟩ = some (.pointer (some ⟨p, 0, none⟩))) (by kernel_rfl) ?_
  change wpAnyH _ _ _ _ _ _ _ _ (World.drew _)
  refine takeY 11 (i := 0) (v := ?vx1) rfl rfl (by kernel_rfl) (by kernel_rfl) (by kernel_rfl) (fun _ _ _ h => h) (by kernel_rfl) ?yx1 hS0 ?_
  case yx1 =>
    intro w' hw'; (try dsimp only at hw'); obtain ⟨q1, q2, q3, q4⟩ := hw'; go_simp; try with_reducible rfl
  simp only [Act.put, List.setIfInBounds_toArray, List.set_cons_zero, List.set_cons_succ]
  refine takeY 12 (i := 1) (v := ?vx2) rfl rfl (by kernel_rfl) (by kernel_rfl) (by kernel_rfl) (fun _ _ _ h => h) (by kernel_rfl) ?yx2 hS0 ?_
  case yx2 =>
    intro w' hw'; (try dsimp only at hw'); obtain ⟨q1, q2, q3, q4⟩ := hw'; go_simp; try with_reducible rfl
  simp only [Act.put, List.setIfInBounds_toArray, List.set_cons_zero, List.set_cons_succ]
  refine takeY 13 (i := 2) (v := ?vx3) rfl rfl (by kernel_rfl) (by kernel_rfl) (by kernel_rfl) (fun _ _ _ h => h) (by kernel_rfl) ?yx3 hS0 ?_
  case yx3 =>
    intro w' hw'; (try dsimp only at hw'); obtain ⟨q1, q2, q3, q4⟩ := hw'; go_simp; try with_reducible rfl
  simp only [Act.put, List.setIfInBounds_toArray, List.set_cons_zero, List.set_cons_succ]
  refine takeY 14 (i := 3) (v := ?vx4) rfl rfl (by kernel_rfl) (by kernel_rfl) (by kernel_rfl) (fun _ _ _ h => h) (by kernel_rfl) ?yx4 hS0 ?_
  case yx4 =>
    intro w' hw'; (try dsimp only at hw'); obtain ⟨q1, q2, q3, q4⟩ := hw'; go_simp; try with_reducible rfl
  simp only [Act.put, List.setIfInBounds_toArray, List.set_cons_zero, List.set_cons_succ]
  refine takeY 15 (i := 4) (v := ?vx5) rfl rfl (by kernel_rfl) (by kernel_rfl) (by kernel_rfl) (fun _ _ _ h => h) (by kernel_rfl) ?yx5 hS0 ?_
  case yx5 =>
    intro w' hw'; (try dsimp only at hw'); obtain ⟨q1, q2, q3, q4⟩ := hw'; go_simp; try with_reducible rfl
  simp only [Act.put, List.setIfInBounds_toArray, List.set_cons_zero, List.set_cons_succ]
  refine wpAnyH_ready (rs := [5]) (by kernel_rfl) (by simp) ?_
  refine (AllReadyH.cons rfl (fun K hK => ?_) AllReadyH.nil)
  go_simp
  go_at_call 31
  refine (HISB.out _ HWc.out.drew (HOc.out.below (Below.refl _ _).drew)).mono ?_
  rintro e w3 ⟨rfl, hb3⟩
  refine hK.out _ _ (⟨(hb3.cell (p := ⟨S, 1, none⟩) (Array.getElem?_eq_some_iff.1 hSc).1).trans s1c, (hb3.cell (p := ⟨gb, 0, none⟩) x_g).trans x_0, (hb3.cell (p := ⟨gb, 1, none⟩) x_g).trans x_1, (hb3.cell (p := ⟨gb, 2, none⟩) x_g).trans x_2⟩) (fun hS1 => ?_)
  clear hK K
  try simp only [Act.put, List.setIfInBounds_toArray, List.set_cons_zero, List.set_cons_succ]
  refine wpAnyH_done (by kernel_rfl) ?_ _
  have HB3 : Hid (Below wc.heap.size wc w3) := Lib.hid ((Below.refl _ wc).drew.trans hb3)
  have hX3 := hXc.below HB3.out
  have hS3 := (HB3.out.block S (Array.getElem?_eq_some_iff.1 hSc).1).trans hSc
  have HK3 := Lib.hid (HKc.out.below hBW HB3.out)
  have HO3 := Lib.hid (HOc.out.below HB3.out)
  have HW3 := Lib.hid (HWc.out.below HC.out HB3.out)
  clear hb3 hXc hSc x_g x_0 x_1 x_2 s1c hS0 hS1 HISB HKc HOc HWc HB3 HKb HOb HWb
  cases z
  · have HF : Hid (lookD f (found.map It.dat, vis) x.dat = (found.map It.dat, vis + 1)) := Lib.hid (by rw [← HStep.out, if_pos (by rw [HZ.out]; rfl)])
    have HS3 := Lib.hid hS3
    clear hS3
    go_wp2
    go_end0
    exact ⟨rfl, _, found, ⟨HW3.out, by rw [HV.out]; exact HS3.out, HO3.out, HH.out.it⟩, HF.out.symm, HK3.out, .inl rfl⟩
  · have HF : Hid (lookD f (found.map It.dat, vis) x.dat = (((found.filter fun y => !belF f x.xs y.xs) ++ [x]).map It.dat, vis + 1)) := Lib.hid (by rw [← HStep.out, if_neg (by rw [HZ.out]; simp)])
    have hlf : (found.filter fun y => !belF f x.xs y.xs).length ≤ 64 := Nat.le_trans (List.length_filter_le _ _) hn
    obtain ⟨x_g, x_0, x_1, x_2⟩ := hX3
    obtain ⟨⟨-, s1, -⟩, -⟩ := sr_cells hS3
    go_wp2
    have hS0 : (fun w' => w'.cell? ⟨gb, 0, none⟩ = some (.int .i64 x.id) ∧ w'.cell? ⟨gb, 1, none⟩ = some (.slice x.A x.n x.c) ∧ w'.cell? ⟨gb, 2, none⟩ = some (.pointer (some ⟨p, 0, none⟩))) w3.drew := ⟨x_0, x_1, x_2⟩
    refine wp_region_held (S := fun w' => w'.cell? ⟨gb, 0, none⟩ = some (.int .i64 x.id) ∧ w'.cell? ⟨gb, 1, none⟩ = some (.slice x.A x.n x.c) ∧ w'.cell? ⟨gb, 2, none⟩ = some (.pointer (some ⟨p, 0, none⟩))) (by kernel_rfl) ?_
    change wpAnyH _ _ _ _ _ _ _ _ (World.drew _)
    refine takeY 17 (i := 0) (v := ?vx10) rfl rfl (by kernel_rfl) (by kernel_rfl) (by kernel_rfl) (fun _ _ _ h => h) (by kernel_rfl) ?yx10 hS0 ?_
    case yx10 =>
      intro w' hw'; (try dsimp only at hw'); obtain ⟨q1, q2, q3⟩ := hw'; go_simp; try with_reducible rfl
    simp only [Act.put, List.setIfInBounds_toArray, List.set_cons_zero, List.set_cons_succ]
    refine takeY 18 (i := 1) (v := ?vx11) rfl rfl (by kernel_rfl) (by kernel_rfl) (by kernel_rfl) (fun _ _ _ h => h) (by kernel_rfl) ?yx11 hS0 ?_
    case yx11 =>
      intro w' hw'; (try dsimp only at hw'); obtain ⟨q1, q2, q3⟩ := hw'; go_simp; try with_reducible rfl
    simp only [Act.put, List.setIfInBounds_toArray, List.set_cons_zero, List.set_cons_succ]
    refine takeY 19 (i := 2) (v := ?vx12) rfl rfl (by kernel_rfl) (by kernel_rfl) (by kernel_rfl) (fun _ _ _ h => h) (by kernel_rfl) ?yx12 hS0 ?_
    case yx12 =>
      intro w' hw'; (try dsimp only at hw'); obtain ⟨q1, q2, q3⟩ := hw'; go_simp; try with_reducible rfl
    simp only [Act.put, List.setIfInBounds_toArray, List.set_cons_zero, List.set_cons_succ]
    refine takeY 20 (i := 3) (v := ?vx13) rfl rfl (by kernel_rfl) (by kernel_rfl) (by kernel_rfl) (fun _ _ _ h => h) (by kernel_rfl) ?yx13 hS0 ?_
    case yx13 =>
      intro w' hw'; (try dsimp only at hw'); obtain ⟨q1, q2, q3⟩ := hw'; go_simp; try with_reducible rfl
    simp only [Act.put, List.setIfInBounds_toArray, List.set_cons_zero, List.set_cons_succ]
    refine takeY 22 (i := 5) (v := ?vx14) rfl rfl (by kernel_rfl) (by kernel_rfl) (by kernel_rfl) (fun _ _ _ h => h) (by kernel_rfl) ?yx14 hS0 ?_
    case yx14 =>
      intro w' hw'; (try dsimp only at hw'); obtain ⟨q1, q2, q3⟩ := hw'; go_simp; try with_reducible rfl
    simp only [Act.put, List.setIfInBounds_toArray, List.set_cons_zero, List.set_cons_succ]
    refine takeY 23 (i := 6) (v := ?vx15) rfl rfl (by kernel_rfl) (by kernel_rfl) (by kernel_rfl) (fun _ _ _ h => h) (by kernel_rfl) ?yx15 hS0 ?_
    case yx15 =>
      intro w' hw'; (try dsimp only at hw'); obtain ⟨q1, q2, q3⟩ := hw'; go_simp; try with_reducible rfl
    simp only [Act.put, List.setIfInBounds_toArray, List.set_cons_zero, List.set_cons_succ]
    refine takeY 25 (i := 8) (v := ?vx16) rfl rfl (by kernel_rfl) (by kernel_rfl) (by kernel_rfl) (fun _ _ _ h => h) (by kernel_rfl) ?yx16 hS0 ?_
    case yx16 =>
      intro w' hw'; (try dsimp only at hw'); obtain ⟨q1, q2, q3⟩ := hw'; go_simp; try with_reducible rfl
    simp only [Act.put, List.setIfInBounds_toArray, List.set_cons_zero, List.set_cons_succ]
    refine wpAnyH_ready (rs := [4, 9]) (by kernel_rfl) (by simp) ?_
    refine (AllReadyH.cons rfl (fun K hK => ?_) (AllReadyH.cons rfl (fun K hK => ?_) AllReadyH.nil))
    · go_simp
      refine hK.out _ _ (hS0) (fun hS1 => ?_)
      clear hK K
      try simp only [Act.put, List.setIfInBounds_toArray, List.set_cons_zero, List.set_cons_succ]
      refine wpAnyH_ready (rs := [7, 9]) (by kernel_rfl) (by simp) ?_
      refine (AllReadyH.cons rfl (fun K hK => ?_) (AllReadyH.cons rfl (fun K hK => ?_) AllReadyH.nil))
      · go_simp
        go_at_call 46
        refine (HDE.out _ HW3.out.drew (HO3.out.below (Below.refl _ _).drew)).mono ?_
        rintro e w4 ⟨⟨v6, rfl, ho6, hob6⟩, hg6⟩
        obtain ⟨A6, c6, rfl, -, -⟩ := ho6.shape
        obtain ⟨n6, hn6⟩ : ∃ n6, (found.filter fun y => !belF f x.xs y.xs).length = n6 := ⟨_, rfl⟩
        rw [hn6] at ho6 hob6 ⊢
        have hX4 := box3_frow (Box3.below ⟨x_g, x_0, x_1, x_2⟩ (Below.refl _ w3).drew) hg6 HGb.out
        refine hK.out _ _ (hX4.2) (fun hS4 => ?_)
        clear hK K
        try simp only [Act.put, List.setIfInBounds_toArray, List.set_cons_zero, List.set_cons_succ]
        refine wpAnyH_ready (rs := [9]) (by kernel_rfl) (by simp) ?_
        refine (AllReadyH.cons rfl (fun K hK => ?_) AllReadyH.nil)
        go_simp
        refine hK.out _ _ ((hX4.alloc _).2) (fun hS5 => ?_)
        clear hK K
        try simp only [Act.put, List.setIfInBounds_toArray, List.set_cons_zero, List.set_cons_succ]
        have hK4 := (HK3.out.drew hBW).grown hBW hg6 fun k hk => Nat.le_trans hB (HLow.out k hk).1
        have hW4 := HW3.out.drew.grown HC.out hg6 fun k hk => (HLow.out k hk).1
        have hS4h := (hg6.block S (Array.getElem?_eq_some_iff.1 hS3).1 (fun e => by have h1 := (HLow.out S e.symm).1; omega)).trans hS3
        obtain ⟨w9, hw9⟩ : ∃ w9, w4.alloc (.cells #[.int .i64 x.id, .slice x.A x.n x.c, .pointer (some ⟨p, 0, none⟩)] 61) = w9 := ⟨_, rfl⟩
        have hb9 : Below w4.heap.size w4 w9 := by rw [← hw9]; exact (Below.refl _ w4).alloc (Nat.le_refl _) _
        have hT9 : ReadG (ctCells p) 3 w9 w9.heap.size (some ⟨w4.heap.size, 0, none⟩) 1 [x] := by rw [← hw9]; exact tmp_read w4 p x _ (by simp)
        have hX9 := hX4.below hb9
        have hK9 := hK4.below hBW hb9
        have hW9 := hW4.below HC.out hb9
        have hS9 := (hb9.block S (Array.getElem?_eq_some_iff.1 hS4h).1).trans hS4h
        have ho9 := ho6.below hb9
        have hB9 : w1.heap.size ≤ w9.heap.size := hW9.sz
        rw [hw9]
        clear hw9
        obtain ⟨v7, w7, hr7, ho7, hg7, hat7⟩ := run_spreadG (ctCells_len p) (ctCells_one p) (T := 61) (tS := 46) (ty := 46) Tryz.underlying46 info_ct rfl (by decide) (by decide) ho9 hT9 (by omega) (Nat.le_trans hB9 (Nat.le_refl _))
        obtain ⟨A7, c7, rfl, -, -⟩ := ho7.shape
        obtain ⟨n7, hn7⟩ : ∃ n7, ((found.filter fun y => !belF f x.xs y.xs) ++ [x]).length = n7 := ⟨_, rfl⟩
        rw [hn7] at ho7 hr7 hat7
        have hX7 := box3_frow hX9 hg7 (by rw [hob6]; exact HGb.out)
        have hrow9 : ∀ k, (Value.slice A6 n6 c6).ownBlock = some k → w1.heap.size ≤ k := fun k hk => ho9.lows k hk
        have hS7 := (hg7.block S (Array.getElem?_eq_some_iff.1 hS9).1 (fun e => by have h1 := hrow9 S e.symm; omega)).trans hS9
        refine wpAnyH_ready (rs := [10]) (by kernel_rfl) (by simp) ?_
        refine (AllReadyH.cons rfl (fun K hK => ?_) AllReadyH.nil)
        refine step_run _ (by rfl) (.tmp 24) (.tmp 26) 46 (by rfl) _ _ (by rfl) (by rfl) hr7 ?_
        refine hK.out _ _ (hX7.2) (fun hS7x => ?_)
        clear hK K
        try simp only [Act.put, List.setIfInBounds_toArray, List.set_cons_zero, List.set_cons_succ]
        refine takeY 28 (i := 11) (v := ?vx6) rfl rfl (by kernel_rfl) (by kernel_rfl) (by kernel_rfl) (fun _ _ _ h => h) (by kernel_rfl) ?yx6 hS7x ?_
        case yx6 =>
          intro w' hw'; (try dsimp only at hw'); obtain ⟨q1, q2, q3⟩ := hw'; go_simp; try with_reducible rfl
        simp only [Act.put, List.setIfInBounds_toArray, List.set_cons_zero, List.set_cons_succ]
        refine takeY 29 (i := 12) (v := ?vx7) rfl rfl (by kernel_rfl) (by kernel_rfl) (by kernel_rfl) (fun _ _ _ h => h) (by kernel_rfl) ?yx7 hS7x ?_
        case yx7 =>
          intro w' hw'; (try dsimp only at hw'); obtain ⟨q1, q2, q3⟩ := hw'; go_simp; try with_reducible rfl
        simp only [Act.put, List.setIfInBounds_toArray, List.set_cons_zero, List.set_cons_succ]
        obtain ⟨⟨-, t1, -⟩, -, t2, -⟩ := sr_cells hS7
        refine wpAnyH_ready (rs := [13]) (by kernel_rfl) (by simp) ?_
        refine (AllReadyH.cons rfl (fun K hK => ?_) AllReadyH.nil)
        go_simp
        refine hK.out _ _ ((box3_set hX7 hgS).2) (fun hS8x => ?_)
        clear hK K
        try simp only [Act.put, List.setIfInBounds_toArray, List.set_cons_zero, List.set_cons_succ]
        refine wpAnyH_done (by kernel_rfl) ?_ _
        go_wp2
        go_end0
        have hW7 := hW9.grown HC.out hg7 hrow9
        have hK7 := hK9.grown (fv := .slice Af nf cf) hBW (by rw [← hob6]; exact hg7) fun k hk => Nat.le_trans hB (HLow.out k hk).1
        exact ⟨rfl, _, _, ⟨hW7.set HC.out _ _, by rw [HV.out]; exact (sr_set hS7).1, ho7.blocks fun k hk => heap_setCell_other _ _ _ _ (by have h1 := ho7.lows k hk; show k ≠ S; omega), fun u hu => by
          rcases List.mem_append.1 hu with hu | hu
          · exact HH.out.it u (List.mem_filter.1 hu).1
          · rw [List.mem_singleton.1 hu]; exact HX.out⟩, HF.out.symm, hK7.set HC.out.bs _ _, by
          rcases hat7 with q | q
          · exact .inl (q.trans hob6)
          · exact .inr fun g hg => by
              rw [q] at hg
              have h1 := Option.some.inj hg
              have h2 := hK9.sz
              omega⟩
      · go_simp
        refine hK.out _ _ ((Box3.below (Box3.alloc ⟨x_g, x_0, x_1, x_2⟩ _) (Below.refl _ _).drew).2) (fun hS5 => ?_)
        clear hK K
        try simp only [Act.put, List.setIfInBounds_toArray, List.set_cons_zero, List.set_cons_succ]
        obtain ⟨w8, hw8⟩ : ∃ w8, (w3.alloc (.cells #[.int .i64 x.id, .slice x.A x.n x.c, .pointer (some ⟨p, 0, none⟩)] 61)).drew = w8 := ⟨_, rfl⟩
        have hb8 : Below w3.heap.size w3 w8 := by rw [← hw8]; exact ((Below.refl _ w3).alloc (Nat.le_refl _) _).drew
        have hT8 : ReadG (ctCells p) 3 w8 w8.heap.size (some ⟨w3.heap.size, 0, none⟩) 1 [x] := by
          rw [← hw8]
          exact (tmp_read w3 p x (w3.alloc (.cells #[.int .i64 x.id, .slice x.A x.n x.c, .pointer (some ⟨p, 0, none⟩)] 61)).heap.size (by simp)).below (Below.refl _ _).drew
        have hX8 : Box3 w8 gb p x := Box3.below ⟨x_g, x_0, x_1, x_2⟩ hb8
        have hK8 := HK3.out.below hBW hb8
        have hW8 := HW3.out.below HC.out hb8
        have hS8 := (hb8.block S (Array.getElem?_eq_some_iff.1 hS3).1).trans hS3
        have ho8 := HO3.out.below hb8
        have s18 := (sr_cells hS8).1.2.1
        have hgt : w3.heap.size < w8.heap.size := by
          rw [← hw8]
          show w3.heap.size < (w3.alloc (.cells #[.int .i64 x.id, .slice x.A x.n x.c, .pointer (some ⟨p, 0, none⟩)] 61)).heap.size
          simp
        try rw [hw8]
        try rw [hw8] at hS5
        clear hw8
        refine wpAnyH_ready (rs := [7]) (by kernel_rfl) (by simp) ?_
        refine (AllReadyH.cons rfl (fun K hK => ?_) AllReadyH.nil)
        go_simp
        go_at_call 46
        refine (HDE.out _ hW8 ho8).mono ?_
        rintro e w4 ⟨⟨v6, rfl, ho6, hob6⟩, hg6⟩
        obtain ⟨A6, c6, rfl, -, -⟩ := ho6.shape
        obtain ⟨n6, hn6⟩ : ∃ n6, (found.filter fun y => !belF f x.xs y.xs).length = n6 := ⟨_, rfl⟩
        rw [hn6] at ho6 hob6 ⊢
        have hX4 := box3_frow (hX8) hg6 HGb.out
        refine hK.out _ _ (hX4.2) (fun hS4 => ?_)
        clear hK K
        try simp only [Act.put, List.setIfInBounds_toArray, List.set_cons_zero, List.set_cons_succ]
        obtain ⟨w9, hw9⟩ : ∃ w9, w4 = w9 := ⟨_, rfl⟩
        subst hw9
        have hK9 := hK8.grown hBW hg6 fun k hk => Nat.le_trans hB (HLow.out k hk).1
        have hW9 := hW8.grown HC.out hg6 fun k hk => (HLow.out k hk).1
        have hS9 := (hg6.block S (Array.getElem?_eq_some_iff.1 hS8).1 (fun e => by have h1 := (HLow.out S e.symm).1; omega)).trans hS8
        have hX9 := hX4
        have ho9 := ho6
        have hB9 : w1.heap.size ≤ w4.heap.size := hW9.sz
        have hne9 : (Value.slice Af nf cf).ownBlock ≠ some w3.heap.size := fun e => by have h1 := HO3.out.tops _ e; omega
        have hT9 : ReadG (ctCells p) 3 w4 w4.heap.size (some ⟨w3.heap.size, 0, none⟩) 1 [x] := ⟨rfl, fun k y hk => by
          obtain ⟨b, off, ha, hb, hc⟩ := hT8.at' k y hk
          cases ha
          exact ⟨_, _, rfl, Nat.lt_of_lt_of_le hgt hg6.size, fun j v hj => (World.cell?_of_block (hg6.block _ hgt (fun e => hne9 e.symm))).trans (hc j v hj)⟩⟩
        obtain ⟨v7, w7, hr7, ho7, hg7, hat7⟩ := run_spreadG (ctCells_len p) (ctCells_one p) (T := 61) (tS := 46) (ty := 46) Tryz.underlying46 info_ct rfl (by decide) (by decide) ho9 hT9 (by omega) (Nat.le_trans hB9 (Nat.le_refl _))
        obtain ⟨A7, c7, rfl, -, -⟩ := ho7.shape
        obtain ⟨n7, hn7⟩ : ∃ n7, ((found.filter fun y => !belF f x.xs y.xs) ++ [x]).length = n7 := ⟨_, rfl⟩
        rw [hn7] at ho7 hr7 hat7
        have hX7 := box3_frow hX9 hg7 (by rw [hob6]; exact HGb.out)
        have hrow9 : ∀ k, (Value.slice A6 n6 c6).ownBlock = some k → w1.heap.size ≤ k := fun k hk => ho9.lows k hk
        have hS7 := (hg7.block S (Array.getElem?_eq_some_iff.1 hS9).1 (fun e => by have h1 := hrow9 S e.symm; omega)).trans hS9
        refine wpAnyH_ready (rs := [10]) (by kernel_rfl) (by simp) ?_
        refine (AllReadyH.cons rfl (fun K hK => ?_) AllReadyH.nil)
        refine step_run _ (by rfl) (.tmp 24) (.tmp 26) 46 (by rfl) _ _ (by rfl) (by rfl) hr7 ?_
        refine hK.out _ _ (hX7.2) (fun hS7x => ?_)
        clear hK K
        try simp only [Act.put, List.setIfInBounds_toArray, List.set_cons_zero, List.set_cons_succ]
        refine takeY 28 (i := 11) (v := ?vx8) rfl rfl (by kernel_rfl) (by kernel_rfl) (by kernel_rfl) (fun _ _ _ h => h) (by kernel_rfl) ?yx8 hS7x ?_
        case yx8 =>
          intro w' hw'; (try dsimp only at hw'); obtain ⟨q1, q2, q3⟩ := hw'; go_simp; try with_reducible rfl
        simp only [Act.put, List.setIfInBounds_toArray, List.set_cons_zero, List.set_cons_succ]
        refine takeY 29 (i := 12) (v := ?vx9) rfl rfl (by kernel_rfl) (by kernel_rfl) (by kernel_rfl) (fun _ _ _ h => h) (by kernel_rfl) ?yx9 hS7x ?_
        case yx9 =>
          intro w' hw'; (try dsimp only at hw'); obtain ⟨q1, q2, q3⟩ := hw'; go_simp; try with_reducible rfl
        simp only [Act.put, List.setIfInBounds_toArray, List.set_cons_zero, List.set_cons_succ]
        obtain ⟨⟨-, t1, -⟩, -, t2, -⟩ := sr_cells hS7
        refine wpAnyH_ready (rs := [13]) (by kernel_rfl) (by simp) ?_
        refine (AllReadyH.cons rfl (fun K hK => ?_) AllReadyH.nil)
        go_simp
        refine hK.out _ _ ((box3_set hX7 hgS).2) (fun hS8x => ?_)
        clear hK K
        try simp only [Act.put, List.setIfInBounds_toArray, List.set_cons_zero, List.set_cons_succ]
        refine wpAnyH_done (by kernel_rfl) ?_ _
        go_wp2
        go_end0
        have hW7 := hW9.grown HC.out hg7 hrow9
        have hK7 := hK9.grown (fv := .slice Af nf cf) hBW (by rw [← hob6]; exact hg7) fun k hk => Nat.le_trans hB (HLow.out k hk).1
        exact ⟨rfl, _, _, ⟨hW7.set HC.out _ _, by rw [HV.out]; exact (sr_set hS7).1, ho7.blocks fun k hk => heap_setCell_other _ _ _ _ (by have h1 := ho7.lows k hk; show k ≠ S; omega), fun u hu => by
          rcases List.mem_append.1 hu with hu | hu
          · exact HH.out.it u (List.mem_filter.1 hu).1
          · rw [List.mem_singleton.1 hu]; exact HX.out⟩, HF.out.symm, hK7.set HC.out.bs _ _, by
          rcases hat7 with q | q
          · exact .inl (q.trans hob6)
          · exact .inr fun g hg => by
              rw [q] at hg
              have h1 := Option.some.inj hg
              have h2 := hK9.sz
              omega⟩
    · go_simp
      refine hK.out _ _ ((Box3.below (Box3.alloc ⟨x_g, x_0, x_1, x_2⟩ _) (Below.refl _ _).drew).2) (fun hS5 => ?_)
      clear hK K
      try simp only [Act.put, List.setIfInBounds_toArray, List.set_cons_zero, List.set_cons_succ]
      obtain ⟨w8, hw8⟩ : ∃ w8, (w3.alloc (.cells #[.int .i64 x.id, .slice x.A x.n x.c, .pointer (some ⟨p, 0, none⟩)] 61)).drew = w8 := ⟨_, rfl⟩
      have hb8 : Below w3.heap.size w3 w8 := by rw [← hw8]; exact ((Below.refl _ w3).alloc (Nat.le_refl _) _).drew
      have hT8 : ReadG (ctCells p) 3 w8 w8.heap.size (some ⟨w3.heap.size, 0, none⟩) 1 [x] := by
        rw [← hw8]
        exact (tmp_read w3 p x (w3.alloc (.cells #[.int .i64 x.id, .slice x.A x.n x.c, .pointer (some ⟨p, 0, none⟩)] 61)).heap.size (by simp)).below (Below.refl _ _).drew
      have hX8 : Box3 w8 gb p x := Box3.below ⟨x_g, x_0, x_1, x_2⟩ hb8
      have hK8 := HK3.out.below hBW hb8
      have hW8 := HW3.out.below HC.out hb8
      have hS8 := (hb8.block S (Array.getElem?_eq_some_iff.1 hS3).1).trans hS3
      have ho8 := HO3.out.below hb8
      have s18 := (sr_cells hS8).1.2.1
      have hgt : w3.heap.size < w8.heap.size := by
        rw [← hw8]
        show w3.heap.size < (w3.alloc (.cells #[.int .i64 x.id, .slice x.A x.n x.c, .pointer (some ⟨p, 0, none⟩)] 61)).heap.size
        simp
      try rw [hw8]
      try rw [hw8] at hS5
      clear hw8
      refine wpAnyH_ready (rs := [4]) (by kernel_rfl) (by simp) ?_
      refine (AllReadyH.cons rfl (fun K hK => ?_) AllReadyH.nil)
      go_simp
      refine hK.out _ _ (hX8.2) (fun hS6 => ?_)
      clear hK K
      try simp only [Act.put, List.setIfInBounds_toArray, List.set_cons_zero, List.set_cons_succ]
      refine wpAnyH_ready (rs := [7]) (by kernel_rfl) (by simp) ?_
      refine (AllReadyH.cons rfl (fun K hK => ?_) AllReadyH.nil)
      go_simp
      go_at_call 46
      refine (HDE.out _ hW8 ho8).mono ?_
      rintro e w4 ⟨⟨v6, rfl, ho6, hob6⟩, hg6⟩
      obtain ⟨A6, c6, rfl, -, -⟩ := ho6.shape
      obtain ⟨n6, hn6⟩ : ∃ n6, (found.filter fun y => !belF f x.xs y.xs).length = n6 := ⟨_, rfl⟩
      rw [hn6] at ho6 hob6 ⊢
      have hX4 := box3_frow (hX8) hg6 HGb.out
      refine hK.out _ _ (hX4.2) (fun hS4 => ?_)
      clear hK K
      try simp only [Act.put, List.setIfInBounds_toArray, List.set_cons_zero, List.set_cons_succ]
      obtain ⟨w9, hw9⟩ : ∃ w9, w4 = w9 := ⟨_, rfl⟩
      subst hw9
      have hK9 := hK8.grown hBW hg6 fun k hk => Nat.le_trans hB (HLow.out k hk).1
      have hW9 := hW8.grown HC.out hg6 fun k hk => (HLow.out k hk).1
      have hS9 := (hg6.block S (Array.getElem?_eq_some_iff.1 hS8).1 (fun e => by have h1 := (HLow.out S e.symm).1; omega)).trans hS8
      have hX9 := hX4
      have ho9 := ho6
      have hB9 : w1.heap.size ≤ w4.heap.size := hW9.sz
      have hne9 : (Value.slice Af nf cf).ownBlock ≠ some w3.heap.size := fun e => by have h1 := HO3.out.tops _ e; omega
      have hT9 : ReadG (ctCells p) 3 w4 w4.heap.size (some ⟨w3.heap.size, 0, none⟩) 1 [x] := ⟨rfl, fun k y hk => by
        obtain ⟨b, off, ha, hb, hc⟩ := hT8.at' k y hk
        cases ha
        exact ⟨_, _, rfl, Nat.lt_of_lt_of_le hgt hg6.size, fun j v hj => (World.cell?_of_block (hg6.block _ hgt (fun e => hne9 e.symm))).trans (hc j v hj)⟩⟩
      obtain ⟨v7, w7, hr7, ho7, hg7, hat7⟩ := run_spreadG (ctCells_len p) (ctCells_one p) (T := 61) (tS := 46) (ty := 46) Tryz.underlying46 info_ct rfl (by decide) (by decide) ho9 hT9 (by omega) (Nat.le_trans hB9 (Nat.le_refl _))
      obtain ⟨A7, c7, rfl, -, -⟩ := ho7.shape
      obtain ⟨n7, hn7⟩ : ∃ n7, ((found.filter fun y => !belF f x.xs y.xs) ++ [x]).length = n7 := ⟨_, rfl⟩
      rw [hn7] at ho7 hr7 hat7
      have hX7 := box3_frow hX9 hg7 (by rw [hob6]; exact HGb.out)
      have hrow9 : ∀ k, (Value.slice A6 n6 c6).ownBlock = some k → w1.heap.size ≤ k := fun k hk => ho9.lows k hk
      have hS7 := (hg7.block S (Array.getElem?_eq_some_iff.1 hS9).1 (fun e => by have h1 := hrow9 S e.symm; omega)).trans hS9
      refine wpAnyH_ready (rs := [10]) (by kernel_rfl) (by simp) ?_
      refine (AllReadyH.cons rfl (fun K hK => ?_) AllReadyH.nil)
      refine step_run _ (by rfl) (.tmp 24) (.tmp 26) 46 (by rfl) _ _ (by rfl) (by rfl) hr7 ?_
      refine hK.out _ _ (hX7.2) (fun hS7x => ?_)
      clear hK K
      try simp only [Act.put, List.setIfInBounds_toArray, List.set_cons_zero, List.set_cons_succ]
      refine takeY 28 (i := 11) (v := ?vx8) rfl rfl (by kernel_rfl) (by kernel_rfl) (by kernel_rfl) (fun _ _ _ h => h) (by kernel_rfl) ?yx8 hS7x ?_
      case yx8 =>
        intro w' hw'; (try dsimp only at hw'); obtain ⟨q1, q2, q3⟩ := hw'; go_simp; try with_reducible rfl
      simp only [Act.put, List.setIfInBounds_toArray, List.set_cons_zero, List.set_cons_succ]
      refine takeY 29 (i := 12) (v := ?vx9) rfl rfl (by kernel_rfl) (by kernel_rfl) (by kernel_rfl) (fun _ _ _ h => h) (by kernel_rfl) ?yx9 hS7x ?_
      case yx9 =>
        intro w' hw'; (try dsimp only at hw'); obtain ⟨q1, q2, q3⟩ := hw'; go_simp; try with_reducible rfl
      simp only [Act.put, List.setIfInBounds_toArray, List.set_cons_zero, List.set_cons_succ]
      obtain ⟨⟨-, t1, -⟩, -, t2, -⟩ := sr_cells hS7
      refine wpAnyH_ready (rs := [13]) (by kernel_rfl) (by simp) ?_
      refine (AllReadyH.cons rfl (fun K hK => ?_) AllReadyH.nil)
      go_simp
      refine hK.out _ _ ((box3_set hX7 hgS).2) (fun hS8x => ?_)
      clear hK K
      try simp only [Act.put, List.setIfInBounds_toArray, List.set_cons_zero, List.set_cons_succ]
      refine wpAnyH_done (by kernel_rfl) ?_ _
      go_wp2
      go_end0
      have hW7 := hW9.grown HC.out hg7 hrow9
      have hK7 := hK9.grown (fv := .slice Af nf cf) hBW (by rw [← hob6]; exact hg7) fun k hk => Nat.le_trans hB (HLow.out k hk).1
      exact ⟨rfl, _, _, ⟨hW7.set HC.out _ _, by rw [HV.out]; exact (sr_set hS7).1, ho7.blocks fun k hk => heap_setCell_other _ _ _ _ (by have h1 := ho7.lows k hk; show k ≠ S; omega), fun u hu => by
        rcases List.mem_append.1 hu with hu | hu
        · exact HH.out.it u (List.mem_filter.1 hu).1
        · rw [List.mem_singleton.1 hu]; exact HX.out⟩, HF.out.symm, hK7.set HC.out.bs _ _, by
        rcases hat7 with q | q
        · exact .inl (q.trans hob6)
        · exact .inr fun g hg => by
            rw [q] at hg
            have h1 := Option.some.inj hg
            have h2 := hK9.sz
            omega⟩
end Go.Proofs.YtnbgmiiknndleaaGreat.num
namespace Go.Proofs.YtnbgmiiknndleaaGreat.num
set_option maxRecDepth 20000
open Go.RowKit
set_option linter.unusedVariables false
set_option linter.unusedSimpArgs false

/-- The corner as it stands in memory. -/
structure CornAt (w : World) (lo p g g2 cap : Nat) (c : List Int) : Prop where
  b : w.heap[g]? = some (.cells #[.int .i64 0, .slice (some ⟨g2, 0, none⟩) 3 cap, .pointer (some ⟨p, 0, none⟩)] 61 (0, 0))
  o : OwnI w lo (.slice (some ⟨g2, 0, none⟩) 3 cap) c
  lo : lo ≤ g
theorem CornAt.ne {w : World} {lo p g g2 cap : Nat} {c : List Int} (h : CornAt w lo p g g2 cap c) : g ≠ g2 := fun e => by
  subst e
  rcases h.o.2 with ⟨e, _⟩ | ⟨g', cap', cur, e, _, hg, _⟩
  · cases e
  · injection e with e1 e2 e3
    injection e1 with e1
    injection e1 with e1
    subst e1
    have h1 := h.b
    rw [hg] at h1
    have h2 := Option.some.inj h1
    injection h2 with _ h3 _
    exact absurd h3 (by decide)
theorem CornAt.below {w w' : World} {lo p g g2 cap : Nat} {c : List Int} (h : CornAt w lo p g g2 cap c) (hb : Below w.heap.size w w') : CornAt w' lo p g g2 cap c :=
  ⟨(hb.block g (Array.getElem?_eq_some_iff.1 h.b).1).trans h.b, ownI_below h.o hb, h.lo⟩
theorem CornAt.cells {w : World} {lo p g g2 cap : Nat} {c : List Int} (h : CornAt w lo p g g2 cap c) : w.cell? ⟨g, 0, none⟩ = some (.int .i64 0) ∧ w.cell? ⟨g, 1, none⟩ = some (.slice (some ⟨g2, 0, none⟩) 3 cap) ∧ w.cell? ⟨g, 2, none⟩ = some (.pointer (some ⟨p, 0, none⟩)) := by
  refine ⟨?_, ?_, ?_⟩ <;> simp [World.cell?, h.b]
theorem CornAt.set {w : World} {lo p g g2 cap j : Nat} {c : List Int} {v : Int} (h : CornAt w lo p g g2 cap c) (hj : j < c.length) : CornAt (w.setCell ⟨g2, j, none⟩ (.int .i64 v)) lo p g g2 cap (c.set j v) :=
  ⟨(heap_setCell_other _ _ _ _ h.ne).trans h.b, ownI_set h.o hj, h.lo⟩
theorem cornT_ints {w : World} {B : Nat} {A : Option Addr} {n c : Nat} {l : List Int} (h : OwnI w B (.slice A n c) l) (hl : l.length = 3) : ∃ g, A = some ⟨g, 0, none⟩ ∧ n = 3 := by
  rcases ownI_row h with ⟨e, e2⟩ | ⟨g, cap, f, e, _⟩
  · subst e2; cases hl
  · injection e with e1 e2 e3
    exact ⟨g, e1, by omega⟩
theorem field_z {x : It} (px : IsP x.dat) {j : Nat} (hj : j < 3) : x.xs[j]? = some (fval x j) := by
  have hl : x.xs.length = 3 := px.2.2
  unfold fval
  rw [List.getD_eq_getElem?_getD, Int.toNat_natCast, List.getElem?_eq_getElem (by omega)]
  rfl
theorem minL_self (a : List Int) : minL a a = a := by
  unfold minL
  induction a with
  | nil => rfl
  | cons x r ih => rw [List.zipWith_cons_cons, ih]; congr 1; omega
/-- The corner of the first k items and the first one once more. -/
def cornK (its : List It) (k : Nat) : List Int := if k = 0 then cornD ((its.take 1).map It.dat) else cornD ((its.take k).map It.dat)
theorem cornK_step {its : List It} {k : Nat} {x : It} (h : its[k]? = some x) : cornK its (k + 1) = minL (cornK its k) x.xs := by
  unfold cornK
  rw [if_neg (by omega)]
  by_cases hk : k = 0
  · subst hk
    rw [if_pos rfl, take_at h]
    show cornD [x.dat] = minL (cornD [x.dat]) x.xs
    exact (minL_self x.xs).symm
  · rw [if_neg hk, take_at h, List.map_append]
    have hl := (List.getElem?_eq_some_iff.1 h).1
    exact corn_snoc (fun e => by
      have h1 := congrArg List.length e
      rw [List.length_map, List.length_take, List.length_nil] at h1
      omega) x.dat
theorem cornK_len {its : List It} (hP : ∀ u ∈ its, IsP u.dat) (h0 : 0 < its.length) (k : Nat) : (cornK its k).length = 3 := by
  have hh : ∀ m, 0 < m → (cornD ((its.take m).map It.dat)).length = 3 := fun m hm => corn_len (fun e => by
    have h1 := congrArg List.length e
    rw [List.length_map, List.length_take, List.length_nil] at h1
    omega) (fun d hd => by
      obtain ⟨x, hx, rfl⟩ := List.mem_map.1 hd
      exact (hP x (List.mem_of_mem_take hx)).2.2)
  unfold cornK
  split
  · exact hh 1 (by decide)
  · exact hh k (by omega)
set_option maxRecDepth 20000 in
set_option maxHeartbeats 3200000 in
theorem iCorner (w : World) (B p : Nat) (A : Option Addr) (n c : Nat) (its : List It) (hI : ReadG (ctCells p) 3 w w.heap.size A n its) (hx : ∀ u ∈ its, Ints w B u.A u.n u.xs ∧ IsP u.dat) (hB : B ≤ w.heap.size) (h0 : 0 < n) (hn : n ≤ 1048576) :
    Calls Tryz.prog 32 #[.slice A n c] w fun e w' => (∃ A2 c2, e = .returned (.agg #[.int .i64 0, .slice A2 3 c2, .pointer (some ⟨p, 0, none⟩)]) ∧ OwnI w' w.heap.size (.slice A2 3 c2) (cornD (its.map It.dat))) ∧ Below w.heap.size w w' := by
  have HX := Lib.hid hI
  have HIx := Lib.hid hx
  have HXn := Lib.hid hI.len
  have HLn := Lib.hid (cornK_len (its := its) (fun u hu => (hx u hu).2) (by rw [hI.len]; exact h0))
  obtain ⟨b, off, u, hA, hb, hat, hc0, hc1, hc2⟩ := ct_at hI 0 h0
  subst hA
  rw [Nat.zero_mul, Nat.add_zero] at hc0 hc1 hc2
  have hxu := hx u (mem_of_at hat)
  have hun : u.n = 3 := hxu.1.1.symm.trans hxu.2.2.2
  have HCl : Hid (∀ W, Below w.heap.size w W → Calls Tryz.prog 41 #[.slice u.A u.n u.c] W fun e w' => ∃ v, e = .returned v ∧ OwnI w' W.heap.size v (cornK its 0) ∧ Below W.heap.size W w') := Lib.hid fun W hW => by
    have e : cornK its 0 = u.xs := by
      unfold cornK
      rw [if_pos rfl]
      have h := take_at hat
      rw [Nat.zero_add] at h
      rw [h]
      rfl
    rw [e]
    exact cloneI W B _ _ _ _ (hxu.1.below (hW.mono hB)) (Nat.le_trans hB hW.size) (by omega)
  have H0 : Hid (∀ o : Obj, Below w.heap.size w (w.alloc o)) := Lib.hid fun o => (Below.refl _ w).alloc (Nat.le_refl _) _
  rw [hun] at HCl
  clear hI hx hxu hat
  go_enter Tryz.func32, Tryz.ntmps32
  have HBR : Hid (Below w.heap.size w (w.alloc (.cells #[.int .i64 0, .slice none 0 0, .pointer none] 61))) := Lib.hid (H0.out _)
  have f1 : (w.alloc (.cells #[.int .i64 0, .slice none 0 0, .pointer none] 61)).cell? ⟨b, off + 1, none⟩ = some (.slice u.A 3 u.c) := by
    rw [← hun]
    exact (HBR.out.cell (p := ⟨b, off + 1, none⟩) hb).trans hc1
  have f2 : (w.alloc (.cells #[.int .i64 0, .slice none 0 0, .pointer none] 61)).cell? ⟨b, off + 2, none⟩ = some (.pointer (some ⟨p, 0, none⟩)) := (HBR.out.cell (p := ⟨b, off + 2, none⟩) hb).trans hc2
  have hR : (w.alloc (.cells #[.int .i64 0, .slice none 0 0, .pointer none] 61)).heap[w.heap.size]? = some (.cells #[.int .i64 0, .slice none 0 0, .pointer none] 61 (0, 0)) := by
    show (w.heap.push _)[w.heap.size]? = _
    exact Array.getElem?_push_size
  have hRs : (w.alloc (.cells #[.int .i64 0, .slice none 0 0, .pointer none] 61)).heap.size = w.heap.size + 1 := by simp
  have hn0 : (0 : Int) < (n : Int) := by omega
  obtain ⟨wR, hwR⟩ : ∃ wR, w.alloc (.cells #[.int .i64 0, .slice none 0 0, .pointer none] 61) = wR := ⟨_, rfl⟩
  rw [hwR] at HBR f1 f2 hR hRs
  go_upto_region 1 with (fail)
  try rw [hwR]
  clear hwR
  go_cut [3] from 8 to 19 (fun s3 wx => ∃ g g2 cap, s3 = .pointer (some ⟨g, 0, none⟩) ∧ CornAt wx (w.heap.size + 1) p g g2 cap (cornK its 0) ∧ Below (w.heap.size + 1) wR wx)
  case first =>
    have hS0 : (fun w' => w'.cell? ⟨b, off + 1, none⟩ = some (.slice u.A 3 u.c) ∧ w'.cell? ⟨b, off + 2, none⟩ = some (.pointer (some ⟨p, 0, none⟩))) wR.drew := ⟨f1, f2⟩
    refine wp_region_held (S := fun w' => w'.cell? ⟨b, off + 1, none⟩ = some (.slice u.A 3 u.c) ∧ w'.cell? ⟨b, off + 2, none⟩ = some (.pointer (some ⟨p, 0, none⟩))) (by kernel_rfl) ?_
    change wpAnyH _ _ _ _ _ _ _ _ (World.drew _)
    refine takeY 8 (i := 0) (v := ?vx1) rfl rfl (by kernel_rfl) (by kernel_rfl) (by kernel_rfl) (fun _ _ _ h => h) (by kernel_rfl) ?yx1 hS0 ?_
    case yx1 =>
      intro w' hw'; (try dsimp only at hw'); obtain ⟨q1, q2⟩ := hw'; go_simp; try with_reducible rfl
    simp only [Act.put, List.setIfInBounds_toArray, List.set_cons_zero, List.set_cons_succ]
    refine takeY 9 (i := 1) (v := ?vx2) rfl rfl (by kernel_rfl) (by kernel_rfl) (by kernel_rfl) (fun _ _ _ h => h) (by kernel_rfl) ?yx2 hS0 ?_
    case yx2 =>
      intro w' hw'; (try dsimp only at hw'); obtain ⟨q1, q2⟩ := hw'; go_simp; try with_reducible rfl
    simp only [Act.put, List.setIfInBounds_toArray, List.set_cons_zero, List.set_cons_succ]
    refine takeY 10 (i := 2) (v := ?vx3) rfl rfl (by kernel_rfl) (by kernel_rfl) (by kernel_rfl) (fun _ _ _ h => h) (by kernel_rfl) ?yx3 hS0 ?_
    case yx3 =>
      intro w' hw'; (try dsimp only at hw'); obtain ⟨q1, q2⟩ := hw'; go_simp; try with_reducible rfl
    simp only [Act.put, List.setIfInBounds_toArray, List.set_cons_zero, List.set_cons_succ]
    refine takeY 11 (i := 3) (v := ?vx4) rfl rfl (by kernel_rfl) (by kernel_rfl) (by kernel_rfl) (fun _ _ _ h => h) (by kernel_rfl) ?yx4 hS0 ?_
    case yx4 =>
      intro w' hw'; (try dsimp only at hw'); obtain ⟨q1, q2⟩ := hw'; go_simp; try with_reducible rfl
    simp only [Act.put, List.setIfInBounds_toArray, List.set_cons_zero, List.set_cons_succ]
    refine takeY 12 (i := 4) (v := ?vx5) rfl rfl (by kernel_rfl) (by kernel_rfl) (by kernel_rfl) (fun _ _ _ h => h) (by kernel_rfl) ?yx5 hS0 ?_
    case yx5 =>
      intro w' hw'; (try dsimp only at hw'); obtain ⟨q1, q2⟩ := hw'; go_simp; try with_reducible rfl
    simp only [Act.put, List.setIfInBounds_toArray, List.set_cons_zero, List.set_cons_succ]
    refine takeY 15 (i := 7) (v := ?vx6) rfl rfl (by kernel_rfl) (by kernel_rfl) (by kernel_rfl) (fun _ _ _ h => h) (by kernel_rfl) ?yx6 hS0 ?_
    case yx6 =>
      intro w' hw'; (try dsimp only at hw'); obtain ⟨q1, q2⟩ := hw'; go_simp; try with_reducible rfl
    simp only [Act.put, List.setIfInBounds_toArray, List.set_cons_zero, List.set_cons_succ]
    refine takeY 16 (i := 8) (v := ?vx7) rfl rfl (by kernel_rfl) (by kernel_rfl) (by kernel_rfl) (fun _ _ _ h => h) (by kernel_rfl) ?yx7 hS0 ?_
    case yx7 =>
      intro w' hw'; (try dsimp only at hw'); obtain ⟨q1, q2⟩ := hw'; go_simp; try with_reducible rfl
    simp only [Act.put, List.setIfInBounds_toArray, List.set_cons_zero, List.set_cons_succ]
    refine takeY 17 (i := 9) (v := ?vx8) rfl rfl (by kernel_rfl) (by kernel_rfl) (by kernel_rfl) (fun _ _ _ h => h) (by kernel_rfl) ?yx8 hS0 ?_
    case yx8 =>
      intro w' hw'; (try dsimp only at hw'); obtain ⟨q1, q2⟩ := hw'; go_simp; try with_reducible rfl
    simp only [Act.put, List.setIfInBounds_toArray, List.set_cons_zero, List.set_cons_succ]
    refine takeY 18 (i := 10) (v := ?vx9) rfl rfl (by kernel_rfl) (by kernel_rfl) (by kernel_rfl) (fun _ _ _ h => h) (by kernel_rfl) ?yx9 hS0 ?_
    case yx9 =>
      intro w' hw'; (try dsimp only at hw'); obtain ⟨q1, q2⟩ := hw'; go_simp; try with_reducible rfl
    simp only [Act.put, List.setIfInBounds_toArray, List.set_cons_zero, List.set_cons_succ]
    refine wpAnyH_ready (rs := [5, 12]) (by kernel_rfl) (by simp) ?_
    refine (AllReadyH.cons rfl (fun K hK => ?_) (AllReadyH.cons rfl (fun K hK => ?_) AllReadyH.nil))
    · go_simp
      go_at_call 41
      refine (HCl.out _ HBR.out.drew).mono ?_
      rintro e w2 ⟨v, rfl, ho, hb2⟩
      obtain ⟨A2, n2, c2, rfl, -⟩ := ho.ints
      obtain ⟨g2, rfl, rfl⟩ := cornT_ints ho (HLn.out 0)
      have hB2 : Below w.heap.size w w2 := below_on HBR.out.drew hb2
      refine hK.out _ _ (⟨by rw [← hun]; exact (hB2.cell (p := ⟨b, off + 1, none⟩) hb).trans hc1, (hB2.cell (p := ⟨b, off + 2, none⟩) hb).trans hc2⟩) (fun hS1 => ?_)
      clear hK K
      try simp only [Act.put, List.setIfInBounds_toArray, List.set_cons_zero, List.set_cons_succ]
      refine takeY 14 (i := 6) (v := ?vx10) rfl rfl (by kernel_rfl) (by kernel_rfl) (by kernel_rfl) (fun _ _ _ h => h) (by kernel_rfl) ?yx10 hS1 ?_
      case yx10 =>
        intro w' hw'; (try dsimp only at hw'); obtain ⟨q1, q2⟩ := hw'; go_simp; try with_reducible rfl
      simp only [Act.put, List.setIfInBounds_toArray, List.set_cons_zero, List.set_cons_succ]
      refine takeY 19 (i := 11) (v := ?vx11) rfl rfl (by kernel_rfl) (by kernel_rfl) (by kernel_rfl) (fun _ _ _ h => h) (by kernel_rfl) ?yx11 hS1 ?_
      case yx11 =>
        intro w' hw'; (try dsimp only at hw'); obtain ⟨q1, q2⟩ := hw'; go_simp; try with_reducible rfl
      simp only [Act.put, List.setIfInBounds_toArray, List.set_cons_zero, List.set_cons_succ]
      refine wpAnyH_ready (rs := [12]) (by kernel_rfl) (by simp) ?_
      refine (AllReadyH.cons rfl (fun K hK => ?_) AllReadyH.nil)
      go_simp
      refine hK.out _ _ (⟨by rw [← hun]; exact ((hB2.alloc hB2.size _).cell (p := ⟨b, off + 1, none⟩) hb).trans hc1, ((hB2.alloc hB2.size _).cell (p := ⟨b, off + 2, none⟩) hb).trans hc2⟩) (fun hS2 => ?_)
      clear hK K
      try simp only [Act.put, List.setIfInBounds_toArray, List.set_cons_zero, List.set_cons_succ]
      refine wpAnyH_ready (rs := [13]) (by kernel_rfl) (by simp) ?_
      refine (AllReadyH.cons rfl (fun K hK => ?_) AllReadyH.nil)
      go_simp
      refine hK.out _ _ (⟨by rw [← hun]; exact ((hB2.alloc hB2.size _).cell (p := ⟨b, off + 1, none⟩) hb).trans hc1, ((hB2.alloc hB2.size _).cell (p := ⟨b, off + 2, none⟩) hb).trans hc2⟩) (fun hS4 => ?_)
      clear hK K
      try simp only [Act.put, List.setIfInBounds_toArray, List.set_cons_zero, List.set_cons_succ]
      refine wpAnyH_done (by kernel_rfl) ?_ _
      go_wp2
      go_meet
      have hbR : Below (w.heap.size + 1) wR w2 := by rw [← hRs]; exact ((Below.refl _ wR).drew).trans hb2
      exact ⟨w2.heap.size, g2, c2, rfl, ⟨by
        show (w2.heap.push _)[w2.heap.size]? = _
        exact Array.getElem?_push_size, ownI_lower (ownI_below ho ((Below.refl _ w2).alloc (Nat.le_refl _) _)) (by show _ ≤ wR.heap.size; omega), by have h1 := hbR.size; omega⟩, hbR.alloc (by have h1 := hbR.size; omega) _⟩
    · go_simp
      refine hK.out _ _ (⟨by rw [← hun]; exact ((HBR.out.drew.alloc HBR.out.drew.size _).cell (p := ⟨b, off + 1, none⟩) hb).trans hc1, ((HBR.out.drew.alloc HBR.out.drew.size _).cell (p := ⟨b, off + 2, none⟩) hb).trans hc2⟩) (fun hS3 => ?_)
      clear hK K
      try simp only [Act.put, List.setIfInBounds_toArray, List.set_cons_zero, List.set_cons_succ]
      refine wpAnyH_ready (rs := [5]) (by kernel_rfl) (by simp) ?_
      refine (AllReadyH.cons rfl (fun K hK => ?_) AllReadyH.nil)
      go_simp
      go_at_call 41
      refine (HCl.out _ (HBR.out.drew.alloc HBR.out.drew.size _)).mono ?_
      rintro e w2 ⟨v, rfl, ho, hb2⟩
      obtain ⟨A2, n2, c2, rfl, -⟩ := ho.ints
      obtain ⟨g2, rfl, rfl⟩ := cornT_ints ho (HLn.out 0)
      have hB2 : Below w.heap.size w w2 := below_on (HBR.out.drew.alloc HBR.out.drew.size _) hb2
      refine hK.out _ _ (⟨by rw [← hun]; exact (hB2.cell (p := ⟨b, off + 1, none⟩) hb).trans hc1, (hB2.cell (p := ⟨b, off + 2, none⟩) hb).trans hc2⟩) (fun hS1 => ?_)
      clear hK K
      try simp only [Act.put, List.setIfInBounds_toArray, List.set_cons_zero, List.set_cons_succ]
      refine takeY 14 (i := 6) (v := ?vx12) rfl rfl (by kernel_rfl) (by kernel_rfl) (by kernel_rfl) (fun _ _ _ h => h) (by kernel_rfl) ?yx12 hS1 ?_
      case yx12 =>
        intro w' hw'; (try dsimp only at hw'); obtain ⟨q1, q2⟩ := hw'; go_simp; try with_reducible rfl
      simp only [Act.put, List.setIfInBounds_toArray, List.set_cons_zero, List.set_cons_succ]
      refine takeY 19 (i := 11) (v := ?vx13) rfl rfl (by kernel_rfl) (by kernel_rfl) (by kernel_rfl) (fun _ _ _ h => h) (by kernel_rfl) ?yx13 hS1 ?_
      case yx13 =>
        intro w' hw'; (try dsimp only at hw'); obtain ⟨q1, q2⟩ := hw'; go_simp; try with_reducible rfl
      simp only [Act.put, List.setIfInBounds_toArray, List.set_cons_zero, List.set_cons_succ]
      have hsz : (wR.drew.alloc (.cells #[.int .i64 0, .slice none 0 0, .pointer none] 61)).heap.size = w.heap.size + 2 := by show (wR.heap.push _).size = _; rw [Array.size_push, hRs]
      have hbz : w2.heap[w.heap.size + 1]? = some (.cells #[.int .i64 0, .slice none 0 0, .pointer none] 61 (0, 0)) := by
        rw [hb2.block (w.heap.size + 1) (by omega)]
        rw [← hRs]
        show (wR.heap.push _)[wR.heap.size]? = _
        exact Array.getElem?_push_size
      have z0 : w2.cell? ⟨w.heap.size + 1, 0, none⟩ = some (.int .i64 0) := by simp [World.cell?, hbz]
      have z1 : w2.cell? ⟨w.heap.size + 1, 1, none⟩ = some (.slice none 0 0) := by simp [World.cell?, hbz]
      have z2 : w2.cell? ⟨w.heap.size + 1, 2, none⟩ = some (.pointer none) := by simp [World.cell?, hbz]
      have y0 : w2.frozen? ⟨w.heap.size + 1, 0, none⟩ = false := by simp [World.frozen?, hbz]
      have y1 : w2.frozen? ⟨w.heap.size + 1, 1, none⟩ = false := by simp [World.frozen?, hbz]
      have y2 : w2.frozen? ⟨w.heap.size + 1, 2, none⟩ = false := by simp [World.frozen?, hbz]
      refine wpAnyH_ready (rs := [13]) (by kernel_rfl) (by simp) ?_
      refine (AllReadyH.cons rfl (fun K hK => ?_) AllReadyH.nil)
      go_simp
      refine hK.out _ _ (⟨by rw [← hun]; exact ((((hB2.setCell (p := ⟨w.heap.size + 1, 0, none⟩) (Nat.le_succ _) _).setCell (p := ⟨w.heap.size + 1, 1, none⟩) (Nat.le_succ _) _).setCell (p := ⟨w.heap.size + 1, 2, none⟩) (Nat.le_succ _) _).cell (p := ⟨b, off + 1, none⟩) hb).trans hc1, ((((hB2.setCell (p := ⟨w.heap.size + 1, 0, none⟩) (Nat.le_succ _) _).setCell (p := ⟨w.heap.size + 1, 1, none⟩) (Nat.le_succ _) _).setCell (p := ⟨w.heap.size + 1, 2, none⟩) (Nat.le_succ _) _).cell (p := ⟨b, off + 2, none⟩) hb).trans hc2⟩) (fun hS4 => ?_)
      clear hK K
      try simp only [Act.put, List.setIfInBounds_toArray, List.set_cons_zero, List.set_cons_succ]
      refine wpAnyH_done (by kernel_rfl) ?_ _
      go_wp2
      go_meet
      have hbR : Below (w.heap.size + 1) wR w2 := (((Below.refl _ wR).drew).alloc (by show _ ≤ wR.heap.size; omega) _).trans (hb2.mono (by omega))
      have hne : w.heap.size + 1 ≠ g2 := fun e => by have h1 := ownI_lows ho g2 rfl; omega
      exact ⟨w.heap.size + 1, g2, c2, rfl, ⟨three_set hbz, ownI_lower (ownI_blocks ho fun k hk => by
        have hk' : g2 = k := Option.some.inj hk
        subst hk'
        rw [heap_setCell_other _ _ _ _ (fun e => hne e.symm), heap_setCell_other _ _ _ _ (fun e => hne e.symm), heap_setCell_other _ _ _ _ (fun e => hne e.symm)]) (by omega), Nat.le_refl _⟩, ((hbR.setCell (p := ⟨w.heap.size + 1, 0, none⟩) (Nat.le_refl _) _).setCell (p := ⟨w.heap.size + 1, 1, none⟩) (Nat.le_refl _) _).setCell (p := ⟨w.heap.size + 1, 2, none⟩) (Nat.le_refl _) _⟩
  case rest =>
  obtain ⟨g, g2, cap, rfl, hcn, hb9⟩ := hcut
  rename World => w9
  have HCn := Lib.hid hcn
  have HB9 : Hid (Below w.heap.size w w9) := Lib.hid (HBR.out.trans (hb9.mono (by omega)))
  have hR9 : w9.heap[w.heap.size]? = some (.cells #[.int .i64 0, .slice none 0 0, .pointer none] 61 (0, 0)) := (hb9.block w.heap.size (by omega)).trans hR
  have HR9 := Lib.hid hR9
  clear hcn hb9 hR hR9 hRs f1 f2 HCl H0 HBR
  go_wp2
  go_loopw [22] (fun iv wr => ∃ k : Nat, k ≤ n ∧ iv = .int .i64 k ∧ CornAt wr (w.heap.size + 1) p g g2 cap (cornK its k) ∧ wr.heap[w.heap.size]? = some (.cells #[.int .i64 0, .slice none 0 0, .pointer none] 61 (0, 0)) ∧ Below w.heap.size w wr) (fun iv _ => n - (intOf iv).toNat)
  case atStart => exact ⟨0, Nat.zero_le _, rfl, HCn.out, HR9.out, HB9.out⟩
  case round =>
    obtain ⟨k, hk, rfl, hcn, hr, hbel⟩ := hrel
    have HC := Lib.hid hcn
    have HB := Lib.hid hbel
    have HR := Lib.hid hr
    clear hcn hr
    by_cases hlt : k < n
    · obtain ⟨b', off', x, hbo, -, hat, hd0, hd1, hd2⟩ := ct_at HX.out k hlt
      obtain ⟨rfl, rfl⟩ : b = b' ∧ off = off' := by injection hbo with h; injection h with h2 h3; exact ⟨h2, h3⟩
      have HXx := Lib.hid (HIx.out x (mem_of_at hat))
      have HT := Lib.hid (cornK_step hat)
      have hCl := HLn.out k
      have hxl : x.xs.length = 3 := (HIx.out x (mem_of_at hat)).2.2.2
      have hxn : x.n = 3 := (HIx.out x (mem_of_at hat)).1.1.symm.trans hxl
      have e0 := (hbel.cell (p := ⟨b, off + k * 3, none⟩) hb).trans hd0
      have e1 := (hbel.cell (p := ⟨b, off + k * 3 + 1, none⟩) hb).trans hd1
      have e2 := (hbel.cell (p := ⟨b, off + k * 3 + 2, none⟩) hb).trans hd2
      rw [hxn] at e1
      generalize cornK its k = C at *
      have hlt' : (k : Int) < (n : Int) := by omega
      obtain ⟨w5, hw5⟩ : ∃ w5, wr.alloc (.cells #[.int .i64 x.id, .slice x.A 3 x.c, .pointer (some ⟨p, 0, none⟩)] 61) = w5 := ⟨_, rfl⟩
      have hb5 : Below wr.heap.size wr w5 := by rw [← hw5]; exact (Below.refl _ wr).alloc (Nat.le_refl _) _
      have HC5 := Lib.hid (HC.out.below hb5)
      have HR5 : Hid (w5.heap[w.heap.size]? = some (.cells #[.int .i64 0, .slice none 0 0, .pointer none] 61 (0, 0))) := Lib.hid ((hb5.block _ (Array.getElem?_eq_some_iff.1 HR.out).1).trans HR.out)
      have HB5 := Lib.hid (below_on hbel hb5)
      have hx5 : w5.heap[wr.heap.size]? = some (.cells #[.int .i64 x.id, .slice x.A 3 x.c, .pointer (some ⟨p, 0, none⟩)] 61 (0, 0)) := by
        rw [← hw5]
        show (wr.heap.push _)[wr.heap.size]? = _
        exact Array.getElem?_push_size
      obtain ⟨gx, hgx⟩ : ∃ gx, wr.heap.size = gx := ⟨_, rfl⟩
      rw [hgx] at hx5
      have HX5 := Lib.hid hx5
      have hx51 : w5.cell? ⟨gx, 1, none⟩ = some (.slice x.A 3 x.c) := by simp [World.cell?, hx5]
      have HGx : Hid (w.heap.size ≤ gx ∧ gx ≠ g2) := Lib.hid ⟨by rw [← hgx]; exact hbel.size, fun e => by
        rw [e] at hgx
        have h1 := ownI_tops HC.out.o g2 rfl
        omega⟩
      clear hat hbo hd0 hd1 hd2 hbel hb5 hx5
      go_wp2
      go_loopw [30] (fun jv wr2 => ∃ j : Nat, j ≤ 3 ∧ jv = .int .i64 j ∧ CornAt wr2 (w.heap.size + 1) p g g2 cap (mixL C x.xs j) ∧ wr2.heap[w.heap.size]? = some (.cells #[.int .i64 0, .slice none 0 0, .pointer none] 61 (0, 0)) ∧ Below w.heap.size w wr2) (fun jv _ => 3 - (intOf jv).toNat)
      case atStart => exact ⟨0, by decide, rfl, by rw [mixL_zero]; exact HC5.out, HR5.out, HB5.out⟩
      case round =>
        obtain ⟨j, hj, rfl, hcn, hr, hbel⟩ := hrel
        have HC2 := Lib.hid hcn
        have HR2 := Lib.hid hr
        have HB2 := Lib.hid hbel
        clear hcn hr
        by_cases hlj : j < 3
        · obtain ⟨b1, o1, hA1, hb1, hn1, hc1'⟩ := field_of HXx.out.1 HXx.out.2 hlj
          obtain ⟨-, -, -, g', e, hgB, hgl, hcell⟩ := ownI_cells HC2.out.o (by decide)
          cases e
          obtain ⟨y, hy⟩ : ∃ y, C[j]? = some y := ⟨_, List.getElem?_eq_getElem (by omega)⟩
          obtain ⟨hq1, hq2⟩ := hcell j y (mixL_at hCl hxl hy hlj)
          have hxj := field_z HXx.out.2 hlj
          have HS := Lib.hid (mixL_set hCl hxl hy hxj hlj)
          have HM := Lib.hid (mixL_len (a := C) (b := x.xs) hCl hxl hj)
          generalize fval x j = z at *
          have f2 : wr.cell? ⟨b1, o1 + j, none⟩ = some (.int .i64 z) := (hbel.cell (p := ⟨b1, o1 + j, none⟩) (Nat.lt_of_lt_of_le hb1 hB)).trans hc1'
          obtain ⟨z0, z1, z2⟩ := HC2.out.cells
          have hA1' := hA1
          have hj3 : (j : Int) < 3 := by omega
          have hj0 : (0 : Int) ≤ (j : Int) := by omega
          have hcp : (3 : Nat) ≤ cap := by
            rcases ownI_row HC2.out.o with ⟨e, -⟩ | ⟨_, _, _, e, _, h2, _⟩
            · cases e
            · injection e with _ _ e3
              rw [HM.out] at h2
              omega
          have hg0 : w.heap.size + 1 ≤ g2 := hgB
          clear hcell hy hxj hc1' hb1 hn1 z0 z2
          rw [hA1']
          go_wp2
          go_region
          all_goals go_wp2
          all_goals go_roundw
          case rel => exact ⟨j + 1, by omega, by go_num, by rw [← HS.out]; exact (HC2.out.set (by rw [HM.out]; omega)).below (Below.refl _ _).drew, (heap_setCell_other _ _ _ _ (by show w.heap.size ≠ g2; omega)).trans HR2.out, (HB2.out.setCell (p := ⟨g2, j, none⟩) (by show w.heap.size ≤ g2; omega) _).drew⟩
          case measure => simp [intOf] <;> omega
        · obtain rfl : j = 3 := by omega
          have HC3 : Hid (CornAt wr (w.heap.size + 1) p g g2 cap (cornK its (k + 1))) := Lib.hid (by rw [HT.out, ← mixL_all hCl hxl]; exact HC2.out)
          clear hbel
          go_wp2
          go_roundw
          case rel => exact ⟨k + 1, by omega, by go_num, HC3.out, HR2.out, HB2.out⟩
          case measure => simp [intOf] <;> omega
    · obtain rfl : k = n := by omega
      have HCf : Hid (CornAt wr (w.heap.size + 1) p g g2 cap (cornD (its.map It.dat))) := Lib.hid (by
        have h := HC.out
        unfold cornK at h
        rw [if_neg (by omega), take_all HXn.out] at h
        exact h)
      obtain ⟨z0, z1, z2⟩ := HCf.out.cells
      have y0 : wr.cell? ⟨w.heap.size, 0, none⟩ = some (.int .i64 0) := by simp [World.cell?, HR.out]
      have y1 : wr.cell? ⟨w.heap.size, 1, none⟩ = some (.slice none 0 0) := by simp [World.cell?, HR.out]
      have y2 : wr.cell? ⟨w.heap.size, 2, none⟩ = some (.pointer none) := by simp [World.cell?, HR.out]
      have u0 : wr.frozen? ⟨w.heap.size, 0, none⟩ = false := by simp [World.frozen?, HR.out]
      have u1 : wr.frozen? ⟨w.heap.size, 1, none⟩ = false := by simp [World.frozen?, HR.out]
      have u2 : wr.frozen? ⟨w.heap.size, 2, none⟩ = false := by simp [World.frozen?, HR.out]
      go_wp2
      refine bodyPost_ret_by (results_cell_row rfl _ _ w.heap.size 61 _ (0, 0) _ rfl (three_set HR.out) Tryz.underlying61 rfl (by kernel_rfl)) rfl ?_
      have hg0 : w.heap.size + 1 ≤ g2 := ownI_lows HCf.out.o g2 rfl
      exact ⟨⟨_, cap, rfl, ownI_lower (ownI_blocks HCf.out.o fun k hk => by
        have hk' : g2 = k := Option.some.inj hk
        subst hk'
        rw [heap_setCell_other _ _ _ _ (by show g2 ≠ w.heap.size; omega), heap_setCell_other _ _ _ _ (by show g2 ≠ w.heap.size; omega), heap_setCell_other _ _ _ _ (by show g2 ≠ w.heap.size; omega)]) (Nat.le_succ _)⟩, ((HB.out.setCell (p := ⟨w.heap.size, 0, none⟩) (Nat.le_refl _) _).setCell (p := ⟨w.heap.size, 1, none⟩) (Nat.le_refl _) _).setCell (p := ⟨w.heap.size, 2, none⟩) (Nat.le_refl _) _⟩
end Go.Proofs.YtnbgmiiknndleaaGreat.num
