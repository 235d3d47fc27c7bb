/-
  The program's GreedySet: contract.
-/
import Derived.Test.YtjjlhiaghjipcaaGreedC
import Derived.Test.YtjjlhiaghjipcaaItemDelG
import Derived.Test.YtjjlhiaghjipcaaItemImplAre
import Derived.Test.YtjjlhiaghjipcaaOwnLow
namespace Go.Proofs.Ytjjlhiaghjipcaa.num
set_option maxRecDepth 20000
open Go.RowKit
set_option linter.unusedVariables false
set_option linter.unusedSimpArgs false

theorem pick_best (G : Da → Rg) (l : List Da) : pickF G l = bestF (fun d => (⟨(G d).num, (G d).den⟩ : Fr)) l := by
  unfold pickF bestF
  have e : pickS G = bestS (fun d => (⟨(G d).num, (G d).den⟩ : Fr)) := by
    funext o x
    cases o <;> rfl
  rw [e]
theorem row_ownI {w : World} {B b n : Nat} {l : List Int} (h : IntRow w b l) (hn : l.length = n) (hB : B ≤ b) (hm : n ≤ 1048576) : OwnI w B (.slice (some ⟨b, 0, none⟩) n n) l :=
  ownI_of_row (f := fun i => .int .i64 (l.getD i 0)) hB hn (Nat.le_refl _) (by unfold maxLen; omega) (by rw [← hn]; exact h) fun j hj => by
    rw [List.getElem?_map, List.getElem?_eq_getElem (by omega), List.getD_eq_getElem?_getD, List.getElem?_eq_getElem (by omega)]; rfl
def lenV : Value → Nat
  | .slice _ n _ => n
  | _ => 0
/-- What the loop has in memory: the slice of those chosen, in its box; the slice of those left; both apart. -/
structure GrM (w2 : World) (g5 : Nat) (V5 V6 : Value) (cs ls : List It) (wr : World) : Prop where
  b : Below w2.heap.size w2 wr
  ge : w2.heap.size ≤ g5
  s5 : wr.heap[g5]? = some (.cells #[V5] 24 (0, 0))
  o5 : OwnTs wr (g5 + 1) V5 cs
  o6 : OwnTs wr (g5 + 1) V6 ls
  ap : Apart V5 V6
theorem GrM.lt {w2 wr : World} {g5 : Nat} {V5 V6 : Value} {cs ls : List It} (h : GrM w2 g5 V5 V6 cs ls wr) : g5 < wr.heap.size := (Array.getElem?_eq_some_iff.1 h.s5).1
theorem GrM.cell {w2 wr : World} {g5 : Nat} {V5 V6 : Value} {cs ls : List It} (h : GrM w2 g5 V5 V6 cs ls wr) : wr.cell? ⟨g5, 0, none⟩ = some V5 ∧ wr.frozen? ⟨g5, 0, none⟩ = false := by
  have h5 := h.s5
  refine ⟨?_, ?_⟩ <;> simp [World.cell?, World.frozen?, h5]
theorem GrM.step {w2 wr w' : World} {g5 : Nat} {V5 V6 : Value} {cs ls : List It} (h : GrM w2 g5 V5 V6 cs ls wr) (hb : Below wr.heap.size wr w') : GrM w2 g5 V5 V6 cs ls w' :=
  ⟨below_on h.b hb, h.ge, (hb.block g5 h.lt).trans h.s5, h.o5.below hb, h.o6.below hb, h.ap⟩
/-- One more is chosen: appended, and the box set. -/
theorem GrM.app {w2 wr w' : World} {g5 : Nat} {V5 V6 v' : Value} {cs ls : List It} {x : It} (h : GrM w2 g5 V5 V6 cs ls wr) (ho : OwnTs w' (g5 + 1) v' (cs ++ [x])) (hg : wr.grownBy w' V5.ownBlock) (hat : v'.ownBlock = V5.ownBlock ∨ v'.ownBlock = some (wr.heap.size + 1)) (hb : Below (g5 + 1) wr w') :
    GrM w2 g5 v' V6 (cs ++ [x]) ls (w'.setCell ⟨g5, 0, none⟩ v') ∧ w'.heap[g5]? = some (.cells #[V5] 24 (0, 0)) := by
  have hs : w'.heap[g5]? = some (.cells #[V5] 24 (0, 0)) := (hb.block g5 (Nat.lt_succ_self _)).trans h.s5
  have hge := h.ge
  have ho6 : OwnTs w' (g5 + 1) V6 ls := h.o6.apart h.ap.symm hg
  refine ⟨⟨(h.b.trans (hb.mono (by omega))).setCell (p := ⟨g5, 0, none⟩) hge _, hge, ?_, ho.blocks fun k hk => ?_, ho6.blocks fun k hk => ?_, ?_⟩, hs⟩
  · have h1 := heap_setCell_same w' g5 0 _ _ v' hs
    simpa using h1
  · exact heap_setCell_other _ _ _ _ (by have := ho.lows k hk; show k ≠ g5; omega)
  · exact heap_setCell_other _ _ _ _ (by have := ho6.lows k hk; show k ≠ g5; omega)
  · intro b h1 h2
    rcases hat with e | e
    · exact h.ap b (e ▸ h1) h2
    · have h3 := h.o6.tops b h2
      rw [e] at h1
      have := Option.some.inj h1
      omega
/-- It is left out of the others. -/
theorem GrM.del {w2 wr w' : World} {g5 : Nat} {V5 V6 v' : Value} {cs ls ls' : List It} (h : GrM w2 g5 V5 V6 cs ls wr) (ho : OwnTs w' (g5 + 1) v' ls') (hv : v'.ownBlock = V6.ownBlock) (hg : wr.grownBy w' V6.ownBlock) : GrM w2 g5 V5 v' cs ls' w' := by
  have hge := h.ge
  refine ⟨h.b.grown hg h.b.size fun k hk => by have := h.o6.lows k hk; omega, hge, (hg.block g5 h.lt fun e => ?_).trans h.s5, h.o5.apart h.ap hg, ho, fun b h1 h2 => h.ap b h1 (hv ▸ h2)⟩
  have := h.o6.lows g5 e.symm
  omega
/-- And what it says. -/
structure GrS (w2 : World) (its : List It) (g5 k : Nat) (V5 V6 : Value) (cs ls : List It) (wr : World) : Prop where
  m : GrM w2 g5 V5 V6 cs ls wr
  dc : cs.map It.dat = greedy (its.map It.dat) k
  dl : ls.map It.dat = restD (greedy (its.map It.dat) k) (its.map It.dat)
  sc : ∀ u ∈ cs, u ∈ its
  sl : ∀ u ∈ ls, u ∈ its
theorem GrS.step {w2 wr w' : World} {its : List It} {g5 k : Nat} {V5 V6 : Value} {cs ls : List It} (h : GrS w2 its g5 k V5 V6 cs ls wr) (hb : Below wr.heap.size wr w') : GrS w2 its g5 k V5 V6 cs ls w' := ⟨h.m.step hb, h.dc, h.dl, h.sc, h.sl⟩
set_option maxRecDepth 20000 in
set_option maxHeartbeats 6400000 in
theorem iGreedy (w : World) (B : Nat) (A : Option Addr) (n c : Nat) (its : List It) (hi : Items w B A n its) (hB : B ≤ w.heap.size) (hn : n ≤ 1048576) (size : Int) (D : List Int) (hD : GreedP (its.map It.dat) size D) :
    Calls Try.prog 26 #[.slice A n c, .int .i64 size] w fun e w' => (∃ v, e = .returned v ∧ OwnI w' w.heap.size v D) ∧ Below w.heap.size w w' := by
  obtain ⟨qa, hqa⟩ := bool_of (AreP (its.map It.dat))
  obtain ⟨wR, hwR⟩ : ∃ wR, w.alloc (.cells #[.slice A n c] 24) = wR := ⟨_, rfl⟩
  have hbR : Below w.heap.size w wR := by rw [← hwR]; exact (Below.refl _ w).alloc (Nat.le_refl _) _
  have HBR := Lib.hid hbR
  have HS : Hid (SlB wR w.heap.size (.slice A n c)) := Lib.hid (by rw [← hwR]; exact SlB.new w _ _)
  have hiR := hi.below (hbR.mono hB)
  have hBR := Nat.le_trans hB hbR.size
  have HAr := Lib.hid (iAre wR B A n c its hiR hBR qa hqa)
  have HI := Lib.hid hiR
  have HBB := Lib.hid hBR
  have HDy : Hid (qa = true → AreP (its.map It.dat) ∧ D = idsA (greedy (its.map It.dat) (min size.toNat (its.map It.dat).length))) := Lib.hid fun h => ⟨hqa.1 h, hD.yes (hqa.1 h)⟩
  have HDn : Hid (qa = false → D = []) := Lib.hid fun h => hD.no fun h2 => by rw [hqa.2 h2] at h; cases h
  have hil : its.length = n := hi.1
  clear hi hD hqa hiR hBR hbR
  obtain ⟨hbl, f1⟩ := HS.out
  go_enter Try.func26, Try.ntmps26
  go_upto_region 1 with (fail)
  try rw [hwR]
  clear hwR
  go_wp2_with fail
  refine HAr.out.mono ?_
  rintro e w2 ⟨rfl, hb2⟩
  have HB2 := Lib.hid hb2
  have HS2 := Lib.hid (HS.out.below hb2)
  clear hb2 HAr hbl f1
  cases qa
  · obtain rfl := HDn.out rfl
    go_wp2
    go_ret
    exact ⟨⟨_, rfl, ownI_nil _ _⟩, below_on HBR.out HB2.out⟩
  · obtain ⟨hA, rfl⟩ := HDy.out rfl
    have HAp := Lib.hid hA
    have HNd := Lib.hid (ids_nodup hA)
    have hn16 : n ≤ 16 := by have h := hA.2.2; rw [List.length_map, hil] at h; exact h
    clear hA
    obtain ⟨g5, hg5⟩ : ∃ g, w2.heap.size = g := ⟨_, rfl⟩
    obtain ⟨w3, hw3⟩ : ∃ w3, w2.alloc (.cells #[.slice none 0 0] 24) = w3 := ⟨_, rfl⟩
    have hb3 : Below w2.heap.size w2 w3 := by rw [← hw3]; exact (Below.refl _ w2).alloc (Nat.le_refl _) _
    have HB3 := Lib.hid hb3
    have H5 : Hid (w3.heap[g5]? = some (.cells #[.slice none 0 0] 24 (0, 0))) := Lib.hid (by rw [← hw3, ← hg5]; exact heap_alloc_new w2 _)
    have HS3 := Lib.hid (HS2.out.below hb3)
    have HG5 := Lib.hid hg5
    have HCl := Lib.hid (cloneT w3 w3.heap.size A n c its (((HI.out.below ((below_on HB2.out hb3).mono HBB.out)).readT).more (Nat.le_trans HBB.out (Nat.le_trans HB2.out.size hb3.size))) (Nat.le_refl _) (by omega))
    clear hb3
    obtain ⟨hbl, f1⟩ := HS3.out
    go_upto_region 4 with (fail)
    try rw [hw3]
    try rw [hg5]
    clear hw3 hg5
    go_wp2_with fail
    refine HCl.out.mono ?_
    rintro e w4 ⟨V6, rfl, ho6, hb4⟩
    have HS4 : Hid (GrS w2 its g5 0 (.slice none 0 0) V6 [] its w4) := Lib.hid ⟨⟨below_on HB3.out hb4, by rw [HG5.out]; exact Nat.le_refl _, (hb4.block g5 (Array.getElem?_eq_some_iff.1 H5.out).1).trans H5.out, .nil _ _, ho6.low (by have := (Array.getElem?_eq_some_iff.1 H5.out).1; omega), fun b h1 _ => by cases h1⟩, rfl, (by
      have e : restD (greedy (its.map It.dat) 0) (its.map It.dat) = its.map It.dat := by
        show restD [] _ = _
        unfold restD idsA
        rw [List.filter_eq_self]; simp
      exact e.symm), by simp, fun u hu => hu⟩
    clear ho6 hb4 HCl hbl f1 H5 HS3
    have HI2 : Hid (∀ W, Below w2.heap.size w2 W → Items W W.heap.size A n its ∧ SlB W w.heap.size (.slice A n c)) := Lib.hid fun W hW => ⟨((HI.out.below ((below_on HB2.out hW).mono HBB.out)).up (Nat.le_trans HBB.out (Nat.le_trans HB2.out.size hW.size))), HS2.out.below hW⟩
    go_wp2
    go_loopw [6] (fun v wr => ∃ (k : Nat) (V5 V6 : Value) (cs ls : List It), V6 = v ∧ k ≤ size.toNat ∧ k ≤ n ∧ GrS w2 its g5 k V5 V6 cs ls wr) (fun v _ => lenV v)
    case atStart => exact ⟨0, _, _, _, _, rfl, Nat.zero_le _, Nat.zero_le _, HS4.out⟩
    case round =>
      obtain ⟨k, V5, V6, cs, ls, rfl, hks, hkn, hst⟩ := hrel
      have HSt := Lib.hid hst
      obtain ⟨A6, c6, hV6, h6l, h6m⟩ := hst.m.o6.shape
      obtain ⟨A5, c5, hV5, h5l, h5m⟩ := hst.m.o5.shape
      obtain ⟨hgl, hrl⟩ := greedy_len HNd.out k (by rw [List.length_map, hil]; exact hkn)
      have hcl : cs.length = k := by
        have h := congrArg List.length hst.dc
        rw [List.length_map] at h
        rw [h]; exact hgl
      have hll : ls.length + k = n := by
        have h := congrArg List.length hst.dl
        rw [List.length_map] at h
        rw [h, hrl, List.length_map, hil]
      have HCl2 := Lib.hid hcl
      have hc16 : cs.length ≤ 16 := by omega
      clear hst hgl hrl hcl
      subst hV6 hV5
      obtain ⟨q5, z5⟩ := HSt.out.m.cell
      by_cases hgo : 0 < ls.length ∧ (cs.length : Int) < size
      · obtain ⟨h1, h2⟩ := hgo
        have h1' : (0 : Int) < (ls.length : Int) := by omega
        have hks1 : k + 1 ≤ size.toNat := by have := HCl2.out; omega
        have HL := Lib.hid (iLeastT wr A6 ls.length c6 ls (HSt.out.m.o6.read itCs_len) h1 (by omega) h6l (by unfold maxLen at h6m; omega) 73 #[.pointer (some ⟨w.heap.size, 0, none⟩), .pointer (some ⟨g5, 0, none⟩)]
          (enters_of Try.func73 (by kernel_rfl) rfl) (fun u => (⟨(reg (its.map It.dat) ((cs ++ [u]).map It.dat)).num, (reg (its.map It.dat) ((cs ++ [u]).map It.dat)).den⟩ : Fr))
          (fun u hu => by
            have hs : ∀ d ∈ (cs ++ [u]).map It.dat, d ∈ its.map It.dat := fun d hd => by
              obtain ⟨y, hy, rfl⟩ := List.mem_map.1 hd
              rcases List.mem_append.1 hy with h | h
              · exact List.mem_map_of_mem (HSt.out.sc y h)
              · obtain rfl := List.mem_singleton.1 h; exact List.mem_map_of_mem (HSt.out.sl y hu)
            have h := reg_range hs
            unfold Fr.Small
            show 0 ≤ (reg _ _).num ∧ (reg _ _).num ≤ 100 ∧ 0 ≤ (reg _ _).den ∧ (reg _ _).den ≤ 100
            omega)
          (fun W hW u hu => by
            have hm := HSt.out.m.step hW
            have h := HI2.out W hm.b
            exact more_c W W.heap.size A n c its h.1 (Nat.le_refl _) (by omega) A5 cs.length c5 cs (hm.o5.read itCs_len) (by omega) HSt.out.sc u (HSt.out.sl u hu) w.heap.size g5 h.2 ⟨hm.lt, hm.cell.1⟩ _ rfl))
        go_wp2_with fail
        refine HL.out.mono ?_
        rintro e wa ⟨⟨x, hbest, rfl⟩, hba⟩
        have hxm := bestF_mem _ _ hbest
        have HXm := Lib.hid hxm
        have hpk : pickF (greedF (its.map It.dat) (greedy (its.map It.dat) k)) (restD (greedy (its.map It.dat) k) (its.map It.dat)) = some x.dat := by
          rw [pick_best, ← HSt.out.dl, ← bestF_map]
          have e : (fun u : It => (⟨(greedF (its.map It.dat) (greedy (its.map It.dat) k) u.dat).num, (greedF (its.map It.dat) (greedy (its.map It.dat) k) u.dat).den⟩ : Fr)) = fun u => (⟨(reg (its.map It.dat) ((cs ++ [u]).map It.dat)).num, (reg (its.map It.dat) ((cs ++ [u]).map It.dat)).den⟩ : Fr) := by
            funext u
            rw [List.map_append, HSt.out.dc]
            rfl
          rw [e, hbest]; rfl
        have HPk := Lib.hid hpk
        obtain ⟨R, hR⟩ : ∃ R, (reg (its.map It.dat) ((cs ++ [x]).map It.dat)) = R := ⟨_, rfl⟩
        rw [hR]
        have HSa := Lib.hid (HSt.out.step hba)
        obtain ⟨wb, hwb⟩ : ∃ wb, (wa.alloc (.cells #[.int .i64 x.id, .slice x.A x.n x.c] 43)).alloc (.cells #[.int .i64 R.num, .int .i64 R.den] 74) = wb := ⟨_, rfl⟩
        have hbb : Below wa.heap.size wa wb := by rw [← hwb]; exact ((Below.refl _ wa).alloc (Nat.le_refl _) _).alloc (by simp) _
        have HSb := Lib.hid (HSa.out.step hbb)
        have HXb : Hid (ItX wb wa.heap.size x) := Lib.hid (by rw [← hwb]; exact (ItX.new wa x).below ((Below.refl _ _).alloc (Nat.le_refl _) _))
        have HGx : Hid (wr.heap.size ≤ wa.heap.size) := Lib.hid hba.size
        clear hbest hxm hpk hba hbb HL q5 z5 hR
        go_upto_region 7 with (fail)
        clear hwb
        obtain ⟨q5, z5⟩ := HSb.out.m.cell
        obtain ⟨x0, x1, -, -⟩ := HXb.out.cells
        have hgb : g5 + 1 ≤ wb.heap.size := HSb.out.m.lt
        go_wp2_with (at_builtin; refine wp_appT wb (by rfl) (.tmp 29) (.tmp 31) (by rfl) (g5 + 1) _ _ (by rfl) HSb.out.m.o5 x _ (by rfl) 1 (by rfl) (by omega) hgb ?_)
        rintro v' wc ho hg hat hbc
        obtain ⟨A8, c8, hv8, -, -⟩ := ho.shape
        obtain ⟨n8, hn8⟩ : ∃ m, (cs ++ [x]).length = m := ⟨_, rfl⟩
        rw [hn8] at hv8
        have HN8 := Lib.hid hn8
        clear hn8
        subst hv8
        obtain ⟨hm1, h5c⟩ := HSb.out.m.app ho hg hat hbc
        have HM1 := Lib.hid hm1
        have HXc : Hid (ItX (wc.setCell ⟨g5, 0, none⟩ (.slice A8 n8 c8)) wa.heap.size x) := Lib.hid (by
          have hne : wa.heap.size ≠ g5 := by have h1 := HSt.out.m.lt; have h2 := HGx.out; omega
          have h3 : ItX wc wa.heap.size x := (hg.block _ HXb.out.lt fun e => by
            have h1 := HSt.out.m.o5.tops _ e.symm
            have h2 := HGx.out
            omega).trans HXb.out
          unfold ItX
          rw [heap_setCell_other _ _ _ _ hne]
          exact h3)
        have hy5 : wc.cell? ⟨g5, 0, none⟩ = some (.slice A5 cs.length c5) := by simp [World.cell?, h5c]
        have hz5 : wc.frozen? ⟨g5, 0, none⟩ = false := by simp [World.frozen?, h5c]
        have HDe := Lib.hid (delItemsG (wc.setCell ⟨g5, 0, none⟩ (.slice A8 n8 c8)) (g5 + 1) (.slice A6 ls.length c6) ls hm1.o6 (by omega) 75 #[.pointer (some ⟨wa.heap.size, 0, none⟩)] (enters_of Try.func75 (by kernel_rfl) rfl) (fun u => decide (u.id = x.id))
          (fun W hW u hu => taken_c W u x wa.heap.size ((hW.block _ HXc.out.lt fun e => by
            have h1 := HSt.out.m.o6.tops _ e.symm
            have h2 := HGx.out
            omega).trans HXc.out)))
        clear ho hg hat hbc hm1 h5c q5 z5 x0 x1 hgb
        go_wp2_with fail
        refine HDe.out.mono ?_
        rintro e wd ⟨⟨v6, rfl, ho6, hv6⟩, hg6⟩
        have HM2 := Lib.hid (HM1.out.del ho6 hv6 hg6)
        have hdl : (ls.filter fun u => !decide (u.id = x.id)).map It.dat = restD (greedy (its.map It.dat) (k + 1)) (its.map It.dat) := by
          rw [greedy_next HPk.out, restD_more, ← HSt.out.dl, List.filter_map]
          rfl
        have hll' : (ls.filter fun u => !decide (u.id = x.id)).length < ls.length := by
          have h := filter_one (l := ls.map It.dat) (by rw [HSt.out.dl]; exact restD_nodup HNd.out) (List.mem_map_of_mem HXm.out)
          rw [List.filter_map, List.length_map, List.length_map] at h
          have e : (ls.filter ((fun d : Da => !decide (d.1 = x.dat.1)) ∘ It.dat)) = ls.filter fun u => !decide (u.id = x.id) := rfl
          rw [e] at h
          omega
        have HS2' : Hid (GrS w2 its g5 (k + 1) (.slice A8 n8 c8) v6 (cs ++ [x]) (ls.filter fun u => !decide (u.id = x.id)) wd) := Lib.hid ⟨HM2.out, by rw [List.map_append, HSt.out.dc, greedy_next HPk.out]; rfl, hdl, fun u hu => by
          rcases List.mem_append.1 hu with h | h
          · exact HSt.out.sc u h
          · obtain rfl := List.mem_singleton.1 h; exact HSt.out.sl u HXm.out, fun u hu => HSt.out.sl u (List.mem_filter.1 hu).1⟩
        obtain ⟨A7, c7, hV7, -, -⟩ := ho6.shape
        have HV7 := Lib.hid hV7
        clear ho6 hv6 hg6 hdl HDe hy5 hz5
        go_wp2
        go_roundw
        case rel => exact ⟨k + 1, _, v6, _, _, HV7.out, hks1, by omega, HS2'.out⟩
        case measure => exact hll'
      · have hkm : k = min size.toNat (its.map It.dat).length := by
          rw [List.length_map, hil]
          have := HCl2.out
          omega
        have HId := Lib.hid (iIds wr wr.heap.size A5 cs.length c5 cs (Items.ofr (HSt.out.m.o5.read itCs_len) fun u hu => ((HI2.out wr HSt.out.m.b).1.all (HSt.out.sc u hu))) (Nat.le_refl _) (by omega))
        have hids : idL cs = idsA (greedy (its.map It.dat) (min size.toNat (its.map It.dat).length)) := by
          rw [← hkm, ← HSt.out.dc]
          unfold idL idsA
          rw [List.map_map]; rfl
        have HIds := Lib.hid hids
        clear hkm hids
        by_cases h1 : 0 < ls.length
        · have h1' : (0 : Int) < (ls.length : Int) := by omega
          have h2 : ¬ (cs.length : Int) < size := fun h => hgo ⟨h1, h⟩
          clear hgo
          go_wp2_with fail
          refine HId.out.mono ?_
          rintro e wz ⟨rfl, hrow, hbz⟩
          have HR := Lib.hid hrow
          have HBz := Lib.hid hbz
          clear hrow hbz HId q5 z5
          go_wp2
          go_ret
          exact ⟨⟨_, rfl, by rw [← HIds.out]; exact row_ownI HR.out (by rw [idL_len]) (Nat.le_trans (Nat.le_trans HBR.out.size HB2.out.size) HSt.out.m.b.size) (by have := HSt.out.m; omega)⟩, below_on (below_on HBR.out HB2.out) (below_on HSt.out.m.b HBz.out)⟩
        · have h1' : ¬ (0 : Int) < (ls.length : Int) := by omega
          clear hgo
          go_wp2_with fail
          refine HId.out.mono ?_
          rintro e wz ⟨rfl, hrow, hbz⟩
          have HR := Lib.hid hrow
          have HBz := Lib.hid hbz
          clear hrow hbz HId q5 z5
          go_wp2
          go_ret
          exact ⟨⟨_, rfl, by rw [← HIds.out]; exact row_ownI HR.out (by rw [idL_len]) (Nat.le_trans (Nat.le_trans HBR.out.size HB2.out.size) HSt.out.m.b.size) (by have := HSt.out.m; omega)⟩, below_on (below_on HBR.out HB2.out) (below_on HSt.out.m.b HBz.out)⟩
end Go.Proofs.Ytjjlhiaghjipcaa.num
