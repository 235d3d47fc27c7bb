/-
  slices.Clone at ints, pairs and nodes; the program's copyNodes: contracts.
-/
import Derived.Test.YtmbchpdcgjlggaaSpread
import Derived.Test.YtmbchpdcgjlggaaExpMark
import Derived.Test.YtmbchpdcgjlggaaExpSpec
import Derived.Test.YtmbchpdcgjlggaaWishesMem
import Derived.Lib.SliceRun
import Derived.Deep.RegionLaw
namespace Go.Proofs.Ytmbchpdcgjlggaa.num
set_option maxRecDepth 20000
open Go.RowKit
set_option linter.unusedVariables false
set_option linter.unusedSimpArgs false

theorem cloneI (w : World) (B : Nat) (A : Option Addr) (n c : Nat) (xs : List Int) (hi : Ints w B A n xs) (hB : B ≤ w.heap.size) (hn : n ≤ 1048576) :
    Calls Try.prog 114 #[.slice A n c] w fun e w' => ∃ v, e = .returned v ∧ OwnI w' w.heap.size v xs ∧ Below w.heap.size w w' := by
  have hq : ∀ (w : World) (a : Option Addr) (n c n' c' : Nat), (binOp .eql 22 (.slice a n c) (.slice none n' c')).run Try.prog w = .ok (.bool a.isNone) w := fun w a n c n' c' => Lib.run_eql_slice_nil w _ _ a n c n' c' Try.underlying22
  have HB1 : Hid (Below B w (w.alloc (.cells #[] 3))) := Lib.hid ((Below.refl B w).alloc hB _)
  have HX := Lib.hid hi
  cases A with
  | none =>
    obtain rfl : xs = [] := by
      obtain ⟨h1, h2⟩ := hi
      rcases Nat.eq_zero_or_pos n with e | e
      · exact List.eq_nil_of_length_eq_zero (by omega)
      · obtain ⟨_, _, h, _⟩ := h2 0 e; cases h
    clear hi HB1
    go_enter Try.func114, Try.ntmps114
    go_wp2
    go_ret
    exact ⟨_, rfl, ownI_nil _ _, Below.refl _ _⟩
  | some a =>
    clear hi
    obtain ⟨v', w', hr, ho, hg, ha⟩ := run_spreadI (ty := 22) (c := c) (OwnI.empty w w.heap.size (Nat.le_refl _)) (HX.out.below HB1.out) (by simp; omega) (by simp)
    have HO := Lib.hid ho
    have HG := Lib.hid hg
    clear ho hg ha
    go_enter Try.func114, Try.ntmps114
    go_wp2_with (at_builtin; refine Go.Lib.wpList_append_run_sl _ (by rfl) (.tmp 5) (.tmp 6) 22 (by rfl) _ _ (by rfl) (by rfl) hr ?_)
    clear hr
    go_wp2
    go_ret
    exact ⟨_, rfl, by simpa using HO.out, ((Below.refl _ w).alloc (Nat.le_refl _) _).grown HG.out (by simp) (by intro k hk; simp [Value.ownBlock] at hk; omega)⟩
theorem cloneP (w : World) (B : Nat) (A : Option Addr) (n c : Nat) (xs : List (Int × Int)) (hi : Pairs w B A n xs) (hB : B ≤ w.heap.size) (hn : n ≤ 1048576) :
    Calls Try.prog 115 #[.slice A n c] w fun e w' => ∃ v, e = .returned v ∧ OwnP w' w.heap.size v xs ∧ Below w.heap.size w w' := by
  have hq : ∀ (w : World) (a : Option Addr) (n c n' c' : Nat), (binOp .eql 28 (.slice a n c) (.slice none n' c')).run Try.prog w = .ok (.bool a.isNone) w := fun w a n c n' c' => Lib.run_eql_slice_nil w _ _ a n c n' c' Try.underlying28
  have HB1 : Hid (Below B w (w.alloc (.cells #[] 121))) := Lib.hid ((Below.refl B w).alloc hB _)
  have HX := Lib.hid hi
  cases A with
  | none =>
    obtain rfl : xs = [] := by
      obtain ⟨h1, h2⟩ := hi
      cases xs with
      | nil => rfl
      | cons p r => obtain ⟨_, _, h, _⟩ := h2 0 p rfl; cases h
    clear hi HB1
    go_enter Try.func115, Try.ntmps115
    go_wp2
    go_ret
    exact ⟨_, rfl, OwnP.nil _ _, Below.refl _ _⟩
  | some a =>
    clear hi
    obtain ⟨v', w', hr, ho, hg, ha⟩ := run_spreadP (ty := 28) (c := c) (OwnP.empty w w.heap.size (Nat.le_refl _)) (HX.out.below HB1.out) (by simp; omega) (by simp)
    have HO := Lib.hid ho
    have HG := Lib.hid hg
    clear ho hg ha
    go_enter Try.func115, Try.ntmps115
    go_wp2_with (at_builtin; refine Go.Lib.wpList_append_run_sl _ (by rfl) (.tmp 5) (.tmp 6) 28 (by rfl) _ _ (by rfl) (by rfl) hr ?_)
    clear hr
    go_wp2
    go_ret
    exact ⟨_, rfl, by simpa using HO.out, ((Below.refl _ w).alloc (Nat.le_refl _) _).grown HG.out (by simp) (by intro k hk; simp [Value.ownBlock] at hk; omega)⟩
theorem cloneN (w : World) (B : Nat) (A : Option Addr) (n c : Nat) (xs : List Nd) (hi : Nodes w B A n xs) (hB : B ≤ w.heap.size) (hn : n ≤ 1048576) :
    Calls Try.prog 113 #[.slice A n c] w fun e w' => ∃ v, e = .returned v ∧ OwnG 97 nodeCells 6 w' w.heap.size v xs ∧ Below w.heap.size w w' := by
  have hq : ∀ (w : World) (a : Option Addr) (n c n' c' : Nat), (binOp .eql 50 (.slice a n c) (.slice none n' c')).run Try.prog w = .ok (.bool a.isNone) w := fun w a n c n' c' => Lib.run_eql_slice_nil w _ _ a n c n' c' Try.underlying50
  have HB1 : Hid (Below B w (w.alloc (.cells #[] 97))) := Lib.hid ((Below.refl B w).alloc hB _)
  have HX := Lib.hid hi
  cases A with
  | none =>
    obtain rfl : xs = [] := by
      cases xs with
      | nil => rfl
      | cons p r => obtain ⟨_, _, h, _⟩ := hi.r.at' 0 p rfl; cases h
    clear hi HB1
    go_enter Try.func113, Try.ntmps113
    go_wp2
    go_ret
    exact ⟨_, rfl, .nil _ _, Below.refl _ _⟩
  | some a =>
    clear hi
    obtain ⟨v', w', hr, ho, hg, ha⟩ := run_spreadG nodeCells_len nodeCells_one (ty := 50) (c := c) Try.underlying50 info_node rfl (by decide) (by decide) (OwnG.empty (T := 97) (f := nodeCells) (s := 6) w w.heap.size (Nat.le_refl _)) (HX.out.below HB1.out).r (by simp; omega) (by simp)
    have HO := Lib.hid ho
    have HG := Lib.hid hg
    clear ho hg ha
    go_enter Try.func113, Try.ntmps113
    go_wp2_with (at_builtin; refine Go.Lib.wpList_append_run_sl _ (by rfl) (.tmp 5) (.tmp 6) 50 (by rfl) _ _ (by rfl) (by rfl) hr ?_)
    clear hr
    go_wp2
    go_ret
    exact ⟨_, rfl, by simpa using HO.out, ((Below.refl _ w).alloc (Nat.le_refl _) _).grown HG.out (by simp) (by intro k hk; simp [Value.ownBlock] at hk; omega)⟩
theorem ownP_shape {w : World} {B : Nat} {v : Value} {l : List (Int × Int)} (h : OwnP w B v l) : ∃ A n c, v = .slice A n c := by
  rcases h.2 with ⟨rfl, _⟩ | ⟨g, cap, cur, rfl, _⟩
  · exact ⟨_, _, _, rfl⟩
  · exact ⟨_, _, _, rfl⟩
theorem OwnI.slen {w : World} {B : Nat} {A : Option Addr} {n c : Nat} {l : List Int} (h : OwnI w B (.slice A n c) l) : n = l.length := by
  rcases h.2 with ⟨e, hl⟩ | ⟨g, cap, cur, e, _⟩ <;> (injection e with e1 e2 e3 <;> omega)
theorem ownP_slen {w : World} {B : Nat} {A : Option Addr} {n c : Nat} {l : List (Int × Int)} (h : OwnP w B (.slice A n c) l) : n = l.length := by
  rcases h.2 with ⟨e, hl⟩ | ⟨g, cap, cur, e, _⟩ <;> (injection e with e1 e2 e3 <;> omega)
theorem OwnG.set2 {α : Type} {f : α → List Value} {s : Nat} (hf : ∀ x, (f x).length = s) {T : TypeId} {w : World} {B g n c k i1 i2 : Nat} {v1 v2 : Value} {l : List α} {x y : α} (h : OwnG T f s w B (.slice (some ⟨g, 0, none⟩) n c) l) (hk : l[k]? = some x) (hy : ∀ j, j < s → (f y)[j]? = if j = i2 then some v2 else if j = i1 then some v1 else (f x)[j]?) (h1 : i1 < s) (h2 : i2 < s) :
    OwnG T f s ((w.setCell ⟨g, k * s + i1, none⟩ v1).setCell ⟨g, k * s + i2, none⟩ v2) B (.slice (some ⟨g, 0, none⟩) n c) (l.set k y) := by
  have hlt : k < l.length := by
    rcases Nat.lt_or_ge k l.length with q | q
    · exact q
    · rw [List.getElem?_eq_none q] at hk; cases hk
  have hs : 0 < s := by omega
  rcases h.row with ⟨e, _⟩ | ⟨g', cap, F, e, hB, hle, hcap, hrow, hF⟩
  · cases e
  · injection e with e1 e2 e3
    injection e1 with e1
    injection e1 with e1
    subst e1 e2 e3
    refine OwnG.of_row hf hB (by simp) hle hcap (World.rowIs.set (World.rowIs.set hrow (k * s + i1) v1) (k * s + i2) v2) fun j hj => ?_
    rw [fm_set hf l k _ hlt j hj]
    have hd : j / s * s + j % s = j := by rw [Nat.mul_comm]; exact Nat.div_add_mod j s
    by_cases e : j / s = k
    · obtain ⟨r, hr, rfl⟩ : ∃ r, r < s ∧ j = k * s + r := ⟨j % s, Nat.mod_lt _ hs, by rw [← e]; exact hd.symm⟩
      have hm : (k * s + r) % s = r := by rw [Nat.mul_comm, Nat.mul_add_mod, Nat.mod_eq_of_lt hr]
      rw [if_pos e, hm, hy r hr]
      have hold := hF _ hj
      rw [fm_at hf l k r x hk hr] at hold
      by_cases q2 : r = i2
      · rw [if_pos q2, if_pos (show k * s + r = k * s + i2 by rw [q2])]
      · have n2 : ¬ (k * s + r = k * s + i2) := by omega
        by_cases q1 : r = i1
        · rw [if_neg q2, if_pos q1, if_neg n2, if_pos (show k * s + r = k * s + i1 by rw [q1])]
        · rw [if_neg q2, if_neg q1, if_neg n2, if_neg (show ¬ (k * s + r = k * s + i1) by omega), hold]
    · rw [if_neg e, hF j hj]
      have hm := Nat.mod_lt j hs
      have ne : ∀ i, i < s → j ≠ k * s + i := fun i hi hji => e (by rw [hji, Nat.mul_comm, Nat.mul_add_div hs, Nat.div_eq_of_lt hi, Nat.add_zero])
      rw [if_neg (ne i2 h2), if_neg (ne i1 h1)]
theorem set_mid {α : Type} {cs ns : List α} {k : Nat} {x y : α} (hl : cs.length = k) (h : ns[k]? = some x) : (cs ++ ns.drop k)[k]? = some x ∧ (cs ++ ns.drop k).set k y = (cs ++ [y]) ++ ns.drop (k + 1) := by
  have hlt : k < ns.length := by
    rcases Nat.lt_or_ge k ns.length with g | g
    · exact g
    · rw [List.getElem?_eq_none g] at h; cases h
  have hd : ns.drop k = x :: ns.drop (k + 1) := by
    rw [List.drop_eq_getElem_cons hlt]
    rw [List.getElem?_eq_getElem hlt] at h
    rw [Option.some.inj h]
  refine ⟨by rw [List.getElem?_append_right (by omega), hl, hd]; simp, ?_⟩
  rw [hd, List.set_append_right _ _ (by omega), hl, Nat.sub_self, List.set_cons_zero, List.append_assoc, List.singleton_append]

/-- As far as k, the elements hold copies of their own. -/
structure CopyInv (w w1 : World) (g n cap : Nat) (ns : List Nd) (k : Nat) (cs : List Nd) (wr : World) : Prop where
  len : cs.length = k
  own : OwnG 97 nodeCells 6 wr w.heap.size (.slice (some ⟨g, 0, none⟩) n cap) (cs ++ ns.drop k)
  dat : datN cs = datN (ns.take k)
  sh : ShortN cs
  x : ∀ (i : Nat) (x : Nd), cs[i]? = some x → (Lit.int .i64 x.op).wf = true ∧ WiO wr w1.heap.size x.t
  d : ∀ (i j : Nat) (x y : Nd) (b : Nat), i < j → cs[i]? = some x → cs[j]? = some y → x.t.has b → ¬ y.t.has b
  bel : Below w.heap.size w wr
  s1 : w1.heap.size ≤ wr.heap.size
set_option maxRecDepth 20000 in
theorem CopyInv.next {w w1 wr w2 w3 : World} {g n cap k : Nat} {ns cs : List Nd} {x : Nd} {LA' PA' : Option Addr} {Ln' Lc' Pn' Pc' : Nat} (h : CopyInv w w1 g n cap ns k cs wr) (hG : w.heap.size ≤ g ∧ g < w1.heap.size) (hat : ns[k]? = some x) (hls : x.t.ls.length ≤ 1048576 ∧ x.t.ps.length ≤ 1048576)
    (hwf : (Lit.int .i64 x.op).wf = true ∧ (Lit.int .i64 x.t.kind).wf = true ∧ (Lit.int .i64 x.t.field).wf = true ∧ (Lit.int .i64 x.t.value).wf = true)
    (hoa : OwnI w2 wr.heap.size (.slice LA' Ln' Lc') x.t.ls) (hb2 : Below wr.heap.size wr w2) (hob : OwnP w3 w2.heap.size (.slice PA' Pn' Pc') x.t.ps) (hb23 : Below w2.heap.size w2 w3) :
    CopyInv w w1 g n cap ns (k + 1) (cs ++ [⟨x.op, x.t.kind, x.t.field, x.t.value, LA', Ln', Lc', x.t.ls, PA', Pn', Pc', x.t.ps⟩]) ((w3.setCell ⟨g, k * 6 + 4, none⟩ (.slice LA' Ln' Lc')).setCell ⟨g, k * 6 + 5, none⟩ (.slice PA' Pn' Pc')) := by
  obtain ⟨y, hy⟩ : ∃ y : Nd, y = ⟨x.op, x.t.kind, x.t.field, x.t.value, LA', Ln', Lc', x.t.ls, PA', Pn', Pc', x.t.ps⟩ := ⟨_, rfl⟩
  rw [← hy]
  have hb3 : Below wr.heap.size wr w3 := below_on hb2 hb23
  have hgw : g < wr.heap.size := Nat.lt_of_lt_of_le hG.2 h.s1
  obtain ⟨hm1, hm2⟩ := set_mid (y := y) h.len hat
  have hoth : ∀ b, b ≠ g → ((w3.setCell ⟨g, k * 6 + 4, none⟩ (.slice LA' Ln' Lc')).setCell ⟨g, k * 6 + 5, none⟩ (.slice PA' Pn' Pc')).heap[b]? = w3.heap[b]? := fun b hb => by
    rw [heap_setCell_other _ _ _ _ (by simpa using hb), heap_setCell_other _ _ _ _ (by simpa using hb)]
  have hs1 := h.s1
  have hwy : WiO w3 wr.heap.size y.t := by
    rw [hy]
    refine ⟨hwf.2.1, hwf.2.2.1, hwf.2.2.2, ownI_blocks hoa fun b hb => hb23.block b (ownI_tops hoa b hb), ownP_lowE hob hb2.size, fun b h1 h2 => ?_⟩
    have q1 := ownI_tops hoa b h1
    have q2 := hob.lows b h2
    omega
  refine ⟨by rw [List.length_append, h.len]; rfl, ?_, ?_, ?_, ?_, ?_, ?_, ?_⟩
  · have h3 : OwnG 97 nodeCells 6 w3 w.heap.size (.slice (some ⟨g, 0, none⟩) n cap) (cs ++ ns.drop k) := h.own.blocks fun b hb => by
      have e : g = b := Option.some.inj hb
      rw [← e]; exact hb3.block g hgw
    have h4 := OwnG.set2 (k := k) (i1 := 4) (i2 := 5) (v1 := .slice LA' Ln' Lc') (v2 := .slice PA' Pn' Pc') (y := y) nodeCells_len h3 hm1 (fun j hj => by
      rw [hy]
      have hj' : j = 0 ∨ j = 1 ∨ j = 2 ∨ j = 3 ∨ j = 4 ∨ j = 5 := by omega
      rcases hj' with rfl | rfl | rfl | rfl | rfl | rfl <;> simp [nodeCells]) (by decide) (by decide)
    rw [← hm2]
    exact h4
  · rw [datN_at hat, ← h.dat]
    unfold datN
    rw [List.map_append, List.map_singleton, hy]
    rfl
  · intro u hu
    rcases List.mem_append.1 hu with hu | hu
    · exact h.sh u hu
    · rw [List.mem_singleton.1 hu, hy]
      have e1 := OwnI.slen hoa
      have e2 := ownP_slen hob
      exact ⟨by show Ln' ≤ _; rw [e1]; exact hls.1, by show Pn' ≤ _; rw [e2]; exact hls.2⟩
  · intro i u hu
    rcases get_snoc h.len hu with ⟨_, hu⟩ | ⟨_, rfl⟩
    · obtain ⟨e1, e2⟩ := h.x i u hu
      exact ⟨e1, (e2.below (hb3)).blocks fun b hb => hoth b (by have := (e2.has_in hb).1; omega)⟩
    · exact ⟨by rw [hy]; exact hwf.1, (hwy.blocks fun b hb => hoth b (by have := (hwy.has_in hb).1; omega)).low hs1⟩
  · intro i j u z b hij hu hz hb hb'
    rcases get_snoc h.len hz with ⟨hj, hz⟩ | ⟨_, rfl⟩
    · rcases get_snoc h.len hu with ⟨_, hu⟩ | ⟨e, _⟩
      · exact h.d i j u z b hij hu hz hb hb'
      · omega
    · rcases get_snoc h.len hu with ⟨_, hu⟩ | ⟨e, _⟩
      · have g1 := ((h.x i u hu).2.has_in hb).2
        have g2 := (hwy.has_in hb').1
        omega
      · omega
  · have hgl := hG.1
    exact ((below_on h.bel hb3).setCell (by show w.heap.size ≤ g; omega) _).setCell (by show w.heap.size ≤ g; omega) _
  · have := hb3.size
    simp
    omega
theorem CopyInv.done {w w1 wr : World} {g n cap k : Nat} {ns cs : List Nd} (h : CopyInv w w1 g n cap ns k cs wr) (hG : w.heap.size ≤ g ∧ g < w1.heap.size) (hk : ns.length = k) : datN cs = datN ns ∧ OwnN wr w.heap.size (.slice (some ⟨g, 0, none⟩) n cap) cs := by
  have hd : ns.drop k = [] := List.drop_eq_nil_of_le (by rw [hk]; exact Nat.le_refl _)
  have ht : ns.take k = ns := List.take_of_length_le (by rw [hk]; exact Nat.le_refl _)
  have h1 := h.own
  have h2 := h.dat
  rw [hd, List.append_nil] at h1
  rw [ht] at h2
  refine ⟨h2, h1, fun i x hi => ⟨(h.x i x hi).1, (h.x i x hi).2.low (Nat.le_of_lt (Nat.lt_of_le_of_lt hG.1 hG.2))⟩, fun i x b hi hb e => ?_, h.d⟩
  have h1 := ((h.x i x hi).2.has_in hb).1
  have h2 := hG.2
  have h3 : g = b := Option.some.inj e
  omega
set_option maxRecDepth 20000 in
set_option maxHeartbeats 3200000 in
theorem copyNodes_c (w : World) (B : Nat) (A : Option Addr) (n c : Nat) (ns : List Nd) (hi : Nodes w B A n ns) (hB : B ≤ w.heap.size) (hn : n ≤ 1048576) (hN : ShortN ns) :
    Calls Try.prog 82 #[.slice A n c] w fun e w' => ∃ v ns', e = .returned v ∧ datN ns' = datN ns ∧ ShortN ns' ∧ OwnN w' w.heap.size v ns' ∧ Below w.heap.size w w' := by
  have HX := Lib.hid hi
  have HN := Lib.hid hN
  have HC := Lib.hid (cloneN w B A n c ns hi hB hn)
  have HL : Hid (ns.length = n) := Lib.hid hi.len
  clear hi hN
  go_enter Try.func82, Try.ntmps82
  go_wp2_with fail
  refine HC.out.mono ?_
  rintro e w1 ⟨v, rfl, ho, hb1⟩
  have HO1 := Lib.hid ho
  have HB1 := Lib.hid hb1
  clear hb1 HC
  rcases ho.row with ⟨rfl, rfl⟩ | ⟨g, cap, F, rfl, hgl, hle, hcap, hrow, -⟩
  · obtain rfl : n = 0 := HL.out.symm
    go_wp2
    go_loopw [10] (fun i wr => i = .int .i64 0 ∧ wr = w1) (fun _ _ => 0)
    case atStart => exact ⟨rfl, rfl⟩
    case round =>
      obtain ⟨rfl, rfl⟩ := hrel
      go_wp2
      go_ret
      exact ⟨_, [], rfl, rfl, HN.out, .nil _ _, HB1.out⟩
  · have hcap' : cap ≤ 9223372036854775807 := by unfold maxLen at hcap; omega
    have HG : Hid (w.heap.size ≤ g ∧ g < w1.heap.size) := Lib.hid ⟨hgl, hrow.lt⟩
    rw [HL.out] at hle HO1 ⊢
    clear ho hrow hgl hcap
    go_wp2
    go_loopw [10] (fun i wr => ∃ (k : Nat) (cs : List Nd), k ≤ n ∧ i = .int .i64 k ∧ CopyInv w w1 g n cap ns k cs wr) (fun i _ => n - (intOf i).toNat)
    case atStart => exact ⟨0, [], Nat.zero_le _, rfl, ⟨rfl, by simpa using HO1.out, rfl, by simp [ShortN], by simp, by simp, HB1.out, Nat.le_refl _⟩⟩
    case round =>
      obtain ⟨k, cs, hk, rfl, hinv⟩ := hrel
      have HInv := Lib.hid hinv
      by_cases hlt : k < n
      · obtain ⟨x, hat⟩ : ∃ x, ns[k]? = some x := ⟨_, List.getElem?_eq_getElem (by rw [HL.out]; exact hlt)⟩
        have hmem := List.mem_of_getElem? hat
        obtain ⟨hwf, hwi⟩ := HX.out.x x hmem
        have hsx := HN.out x hmem
        have hown := hinv.own
        have hbel := hinv.bel
        obtain ⟨hm1, -⟩ := set_mid (y := x) hinv.len hat
        have hcell : ∀ (j : Nat) (v : Value), (nodeCells x)[j]? = some v → wr.cell? ⟨g, k * 6 + j, none⟩ = some v := fun j v hv => by
          obtain ⟨b, off, e, _, hc⟩ := (hown.read nodeCells_len).at' k x hm1
          injection e with e
          injection e with e1 e2
          subst e1 e2
          have := hc j v hv
          rwa [Nat.zero_add] at this
        have hfz : ∀ j, wr.frozen? ⟨g, j, none⟩ = false := fun j => by
          rcases hown.row with ⟨e, _⟩ | ⟨g', cap', f, e, _, _, _, hrow, _⟩
          · cases e
          · injection e with e _ _
            injection e with e
            injection e with e
            subst e
            exact World.rowIs.frozen hrow j
        have hgw : g < wr.heap.size := Nat.lt_of_lt_of_le HG.out.2 hinv.s1
        have z4 : wr.cell? ⟨g, k * 6 + 4, none⟩ = some (.slice x.t.LA x.t.Ln x.t.Lc) := hcell 4 _ rfl
        have z5 : wr.cell? ⟨g, k * 6 + 5, none⟩ = some (.slice x.t.PA x.t.Pn x.t.Pc) := hcell 5 _ rfl
        have HF4 := Lib.hid (hfz (k * 6 + 4))
        have HF5 := Lib.hid (hfz (k * 6 + 5))
        have HZ4 := Lib.hid z4
        have HZ5 := Lib.hid z5
        have HGw := Lib.hid hgw
        have HI : Hid (∀ W, Below wr.heap.size wr W → Calls Try.prog 114 #[.slice x.t.LA x.t.Ln x.t.Lc] W fun e w' => ∃ v, e = .returned v ∧ OwnI w' W.heap.size v x.t.ls ∧ Below W.heap.size W w') := Lib.hid fun W h => cloneI W B _ _ _ _ (hwi.l.below ((hbel.mono hB).trans (h.mono (Nat.le_trans hB hbel.size)))) (Nat.le_trans (Nat.le_trans hB hbel.size) h.size) hsx.1
        have HP : Hid (∀ W, Below wr.heap.size wr W → Calls Try.prog 115 #[.slice x.t.PA x.t.Pn x.t.Pc] W fun e w' => ∃ v, e = .returned v ∧ OwnP w' W.heap.size v x.t.ps ∧ Below W.heap.size W w') := Lib.hid fun W h => cloneP W B _ _ _ _ (hwi.p.below ((hbel.mono hB).trans (h.mono (Nat.le_trans hB hbel.size)))) (Nat.le_trans (Nat.le_trans hB hbel.size) h.size) hsx.2
        have HAt := Lib.hid hat
        have HWf : Hid ((Lit.int .i64 x.op).wf = true ∧ (Lit.int .i64 x.t.kind).wf = true ∧ (Lit.int .i64 x.t.field).wf = true ∧ (Lit.int .i64 x.t.value).wf = true) := Lib.hid ⟨hwf, hwi.k, hwi.f, hwi.v⟩
        have HLs : Hid (x.t.ls.length ≤ 1048576 ∧ x.t.ps.length ≤ 1048576) := Lib.hid ⟨by rw [hwi.l.1]; exact hsx.1, by rw [hwi.p.1]; exact hsx.2⟩
        clear hown hbel hinv hat hmem hwf hwi hsx hm1 hcell hfz hgw
        go_wp2
        go_region_law (first
          | (go_simp; go_at_call 114; refine (HI.out _ (Below.refl wr.heap.size wr).drew).mono ?_; rintro e w2 ⟨va, rfl, hoa, hb2⟩; obtain ⟨LA', Ln', Lc', rfl, -⟩ := hoa.ints; have hb2' : Below wr.heap.size wr w2 := (Below.refl wr.heap.size wr).drew.trans (hb2.mono (Nat.le_refl _)); have HOa : Hid (OwnI w2 wr.heap.size (.slice LA' Ln' Lc') x.t.ls) := Lib.hid hoa; have HB2 := Lib.hid hb2'; have y5 := (hb2'.cell (p := ⟨g, k * 6 + 5, none⟩) HGw.out).trans HZ5.out; clear hoa hb2 hb2')
          | (go_simp; go_at_call 115; refine (HP.out _ HB2.out).mono ?_; rintro e w3 ⟨vb, rfl, hob, hb3⟩; obtain ⟨PA', Pn', Pc', rfl⟩ := ownP_shape hob; have hb3' : Below wr.heap.size wr w3 := below_on HB2.out hb3; have HOb := Lib.hid hob; have HB23 := Lib.hid hb3; have x4 := (hb3'.cell (p := ⟨g, k * 6 + 4, none⟩) HGw.out).trans HZ4.out; have x5 := (hb3'.cell (p := ⟨g, k * 6 + 5, none⟩) HGw.out).trans HZ5.out; have f4 := (World.frozen?_of_block (a := ⟨g, k * 6 + 4, none⟩) (hb3'.block g HGw.out)).trans HF4.out; have f5 := (World.frozen?_of_block (a := ⟨g, k * 6 + 5, none⟩) (hb3'.block g HGw.out)).trans HF5.out; clear hob hb3 hb3'))
        all_goals
          have HNx := Lib.hid (HInv.out.next HG.out HAt.out HLs.out HWf.out HOa.out HB2.out HOb.out HB23.out)
          clear x4 x5 f4 f5 z4 z5
          go_wp2
          go_roundw
          case rel => exact ⟨k + 1, _, by omega, by go_num, HNx.out⟩
          case measure => simp [intOf]; omega
      · obtain rfl : k = n := by omega
        have HDn := Lib.hid (hinv.done HG.out HL.out)
        have HSh := Lib.hid hinv.sh
        have HBl := Lib.hid hinv.bel
        clear hinv
        go_wp2
        go_ret
        exact ⟨_, cs, rfl, HDn.out.1, HSh.out, HDn.out.2, HBl.out⟩
end Go.Proofs.Ytmbchpdcgjlggaa.num
