/- Contracts of functions that the laws of this chapter call, packed. -/
import Derived.BigQuiet
import Derived.Test.YtnbgmiiknndleaaGreatBoB
import Derived.Test.YtnbgmiiknndleaaGreatRegion
import Derived.Test.YtnbgmiiknndleaaGreatShelf
import Derived.Sort.OwnSortedInts
import Derived.Test.YtnbgmiiknndleaaGreatBoA
namespace Go.Proofs.YtnbgmiiknndleaaGreat.num
set_option maxRecDepth 20000
open Go.RowKit
set_option linter.unusedVariables false
set_option linter.unusedSimpArgs false

def GoOut (w1 : World) (B S lo p : Nat) (f : List Int) (fA : Option Addr) (fn fc N d : Nat) (box : List It) (W : World) (fv : Value) (found : List It) (vis : Nat) (e : Ending) (w' : World) : Prop :=
  e = .returned (.tuple #[]) ∧ ∃ fv' found' vis', SrS w1 B S lo p fA fn fc w' fv' found' vis' ∧ (found'.map It.dat, vis') = boxD f N d (box.map It.dat) (found.map It.dat, vis) ∧ SrR S B W fv w' fv'
set_option maxRecDepth 20000 in
set_option maxHeartbeats 12800000 in
theorem iGo (w1 : World) (B S lo p : Nat) (f : List Int) (fA : Option Addr) (fn fc : Nat) (C : SrC w1 B S lo p f fA fn) : ∀ (N : Nat) (W : World) (fv : Value) (found : List It) (vis : Nat) (_ : SrS w1 B S lo p fA fn fc W fv found vis) (A : Option Addr) (n c : Nat) (box : List It) (_ : BoxAt w1 B S p W fv A n box) (_ : n ≤ N) (_ : n ≤ 16) (_ : n ≤ c) (d : Nat) (_ : d + N ≤ 1048576) (_ : found.length + n ≤ 64) (_ : vis + n ≤ 64),
    Calls Tryz.prog 21 #[.pointer (some ⟨S, 0, none⟩), .slice A n c, .int .i64 d] W (GoOut w1 B S lo p f fA fn fc N d box W fv found vis) := by
  intro N
  induction N with
  | zero =>
    intro W fv found vis h A n c box hb hnN hn16 hnc d hd hs1 hs2
    obtain rfl : n = 0 := by omega
    obtain rfl : box = [] := List.eq_nil_of_length_eq_zero hb.r.len
    have HH := Lib.hid h
    have HC := Lib.hid C
    have hBW : B ≤ W.heap.size := Nat.le_trans (by have h1 := C.bs; have h2 := C.sl; have h3 := C.ll; omega) h.w.sz
    clear h hb
    go_enter Tryz.func21, Tryz.ntmps21
    go_wp2
    go_quiet (fail)
    go_wp2
    go_end0
    exact ⟨rfl, _, found, vis, HH.out.below HC.out (below_drewN (Below.refl _ _) _), rfl, (SrR.refl _ _ _ _).below hBW (below_drewN (Below.refl _ _) _)⟩
  | succ N ih =>
    intro W fv found vis h A n c box hb hnN hn16 hnc d hd hs1 hs2
    have HIH := Lib.hid ih
    have HH := Lib.hid h
    have HC := Lib.hid C
    have HBx := Lib.hid hb
    have HBn := Lib.hid hb.r.len
    have hB1 : B ≤ w1.heap.size := by have h1 := C.bs; have h2 := C.sl; have h3 := C.ll; omega
    have hBW : B ≤ W.heap.size := Nat.le_trans hB1 h.w.sz
    clear ih
    by_cases h0 : n = 0
    · subst h0
      obtain rfl : box = [] := List.eq_nil_of_length_eq_zero HBn.out
      clear h hb
      go_enter Tryz.func21, Tryz.ntmps21
      go_wp2
      go_quiet (fail)
      go_wp2
      go_end0
      exact ⟨rfl, _, found, vis, HH.out.below HC.out (below_drewN (Below.refl _ _) _), by rw [List.map_nil, boxD_nil], (SrR.refl _ _ _ _).below hBW (below_drewN (Below.refl _ _) _)⟩
    have h00 : ((n : Int) == 0) = false := by simp; omega
    have HNe : Hid (box.map It.dat ≠ []) := Lib.hid (fun e => by have h1 := congrArg List.length e; rw [List.length_map, HBn.out] at h1; exact h0 h1)
    have HLn : Hid ((box.map It.dat).length = n) := Lib.hid (by rw [List.length_map]; exact HBn.out)
    have HPc : Hid (IsP ((0 : Int), cornD (box.map It.dat))) := Lib.hid (corn_isP HNe.out fun x hx => by obtain ⟨u, hu, rfl⟩ := List.mem_map.1 hx; exact (hb.it u hu).2)
    obtain ⟨Cn, hCn⟩ : ∃ Cn, cornD (box.map It.dat) = Cn := ⟨_, rfl⟩
    have HCn := Lib.hid hCn
    rw [hCn] at HPc
    have HCo := Lib.hid (iCorner W.drew B p A n c box (hb.r.below (Below.refl _ _).drew) (fun u hu => ⟨h.w.drew.ints (hb.it u hu).1, (hb.it u hu).2⟩) hBW (by omega) (by omega))
    rw [hCn] at HCo
    obtain ⟨Af, cf, rfl, -, -⟩ := h.own.shape
    obtain ⟨nf, hnf⟩ : ∃ nf, found.length = nf := ⟨_, rfl⟩
    rw [hnf] at h HH hs1 ⊢
    have HNf := Lib.hid hnf
    rw [hnf] at HBx
    obtain ⟨⟨s0, s1, -⟩, -⟩ := sr_cells h.sb
    obtain ⟨z, hz⟩ : ∃ z, (found.any fun y => belF f y.xs Cn) = z := ⟨_, rfl⟩
    have HZ := Lib.hid hz
    have HIB : Hid (∀ w2 A2 c2, Below W.drew.heap.size W.drew w2 → OwnI w2 W.drew.heap.size (.slice A2 3 c2) Cn → Calls Tryz.prog 31 #[.slice Af nf cf, .agg #[.int .i64 0, .slice A2 3 c2, .pointer (some ⟨p, 0, none⟩)]] w2 fun e w' => e = .returned (.bool (!z)) ∧ Below w2.heap.size w2 w') := Lib.hid fun w2 A2 c2 hb2 ho2 => by
      have hb2' : Below W.heap.size W w2 := (Below.refl _ W).drew.trans hb2
      have h2 := h.below C hb2'
      have hq := iBestOf w2 w2.heap.size lo p (lowT f) Af nf cf found ⟨h2.own.read (ctCells_len p), fun u hu => ⟨(h2.w.ints (h.it u hu).1).more (Nat.le_trans hB1 h2.w.sz), (h.it u hu).2⟩, (h2.w.part C).noLists (lowT_no f), Nat.le_refl _⟩ (by omega) ⟨0, A2, 3, c2, Cn⟩ (ownI_at ho2) HPc.out
      rw [bestB_bel C.fl] at hq
      have e : (found.any fun y => belF f y.xs (It.mk 0 A2 3 c2 Cn).xs) = z := hz
      rw [e] at hq
      exact hq
    clear hCn hz hb hnf
    go_enter Tryz.func21, Tryz.ntmps21
    go_wp2_with fail
    have hS0 : (fun w' => w'.cell? ⟨S, 1, none⟩ = some (.slice Af nf cf)) W.drew := s1
    refine wp_region_held (S := fun w' => w'.cell? ⟨S, 1, none⟩ = some (.slice Af nf cf)) (by kernel_rfl) ?_
    change wpAnyH _ _ _ _ _ _ _ _ (World.drew _)
    refine takeY 21 (i := 0) (v := ?vx1) rfl rfl (by kernel_rfl) (by kernel_rfl) (by kernel_rfl) (fun _ _ _ h => h) (by kernel_rfl) ?yx1 hS0 ?_
    case yx1 =>
      intro w' hw'; (try dsimp only at hw'); obtain q1 := hw'; go_simp; try with_reducible rfl
    simp only [Act.put, List.setIfInBounds_toArray, List.set_cons_zero, List.set_cons_succ]
    refine takeY 22 (i := 1) (v := ?vx2) rfl rfl (by kernel_rfl) (by kernel_rfl) (by kernel_rfl) (fun _ _ _ h => h) (by kernel_rfl) ?yx2 hS0 ?_
    case yx2 =>
      intro w' hw'; (try dsimp only at hw'); obtain q1 := hw'; go_simp; try with_reducible rfl
    simp only [Act.put, List.setIfInBounds_toArray, List.set_cons_zero, List.set_cons_succ]
    refine takeY 23 (i := 2) (v := ?vx3) rfl rfl (by kernel_rfl) (by kernel_rfl) (by kernel_rfl) (fun _ _ _ h => h) (by kernel_rfl) ?yx3 hS0 ?_
    case yx3 =>
      intro w' hw'; (try dsimp only at hw'); obtain q1 := hw'; go_simp; try with_reducible rfl
    simp only [Act.put, List.setIfInBounds_toArray, List.set_cons_zero, List.set_cons_succ]
    refine takeY 24 (i := 3) (v := ?vx4) rfl rfl (by kernel_rfl) (by kernel_rfl) (by kernel_rfl) (fun _ _ _ h => h) (by kernel_rfl) ?yx4 hS0 ?_
    case yx4 =>
      intro w' hw'; (try dsimp only at hw'); obtain q1 := hw'; go_simp; try with_reducible rfl
    simp only [Act.put, List.setIfInBounds_toArray, List.set_cons_zero, List.set_cons_succ]
    refine takeY 25 (i := 4) (v := ?vx5) rfl rfl (by kernel_rfl) (by kernel_rfl) (by kernel_rfl) (fun _ _ _ h => h) (by kernel_rfl) ?yx5 hS0 ?_
    case yx5 =>
      intro w' hw'; (try dsimp only at hw'); obtain q1 := hw'; go_simp; try with_reducible rfl
    simp only [Act.put, List.setIfInBounds_toArray, List.set_cons_zero, List.set_cons_succ]
    refine takeY 26 (i := 5) (v := ?vx6) rfl rfl (by kernel_rfl) (by kernel_rfl) (by kernel_rfl) (fun _ _ _ h => h) (by kernel_rfl) ?yx6 hS0 ?_
    case yx6 =>
      intro w' hw'; (try dsimp only at hw'); obtain q1 := hw'; go_simp; try with_reducible rfl
    simp only [Act.put, List.setIfInBounds_toArray, List.set_cons_zero, List.set_cons_succ]
    refine takeY 27 (i := 6) (v := ?vx7) rfl rfl (by kernel_rfl) (by kernel_rfl) (by kernel_rfl) (fun _ _ _ h => h) (by kernel_rfl) ?yx7 hS0 ?_
    case yx7 =>
      intro w' hw'; (try dsimp only at hw'); obtain q1 := hw'; go_simp; try with_reducible rfl
    simp only [Act.put, List.setIfInBounds_toArray, List.set_cons_zero, List.set_cons_succ]
    refine takeY 28 (i := 7) (v := ?vx8) rfl rfl (by kernel_rfl) (by kernel_rfl) (by kernel_rfl) (fun _ _ _ h => h) (by kernel_rfl) ?yx8 hS0 ?_
    case yx8 =>
      intro w' hw'; (try dsimp only at hw'); obtain q1 := hw'; go_simp; try with_reducible rfl
    simp only [Act.put, List.setIfInBounds_toArray, List.set_cons_zero, List.set_cons_succ]
    refine takeY 29 (i := 8) (v := ?vx9) rfl rfl (by kernel_rfl) (by kernel_rfl) (by kernel_rfl) (fun _ _ _ h => h) (by kernel_rfl) ?yx9 hS0 ?_
    case yx9 =>
      intro w' hw'; (try dsimp only at hw'); obtain q1 := hw'; go_simp; try with_reducible rfl
    simp only [Act.put, List.setIfInBounds_toArray, List.set_cons_zero, List.set_cons_succ]
    refine wpAnyH_ready (rs := [9]) (by kernel_rfl) (by simp) ?_
    refine (AllReadyH.cons rfl (fun K hK => ?_) AllReadyH.nil)
    go_simp
    go_at_call 32
    refine HCo.out.mono ?_
    rintro e w2 ⟨⟨A2, c2, rfl, ho2⟩, hb2⟩
    have hSw : S < W.heap.size := (Array.getElem?_eq_some_iff.1 h.sb).1
    refine hK.out _ _ ((hb2.cell (p := ⟨S, 1, none⟩) hSw).trans s1) (fun hS1 => ?_)
    clear hK K
    try simp only [Act.put, List.setIfInBounds_toArray, List.set_cons_zero, List.set_cons_succ]
    refine wpAnyH_ready (rs := [10]) (by kernel_rfl) (by simp) ?_
    refine (AllReadyH.cons rfl (fun K hK => ?_) AllReadyH.nil)
    go_simp
    go_at_call 31
    refine (HIB.out w2 A2 c2 hb2 ho2).mono ?_
    rintro e w3 ⟨rfl, hb3⟩
    refine hK.out _ _ ((hb3.cell (p := ⟨S, 1, none⟩) (Nat.lt_of_lt_of_le hSw hb2.size)).trans hS1) (fun hS2 => ?_)
    clear hK K
    try simp only [Act.put, List.setIfInBounds_toArray, List.set_cons_zero, List.set_cons_succ]
    refine takeY 32 (i := 11) (v := ?vx10) rfl rfl (by kernel_rfl) (by kernel_rfl) (by kernel_rfl) (fun _ _ _ h => h) (by kernel_rfl) ?yx10 hS2 ?_
    case yx10 =>
      intro w' hw'; (try dsimp only at hw'); obtain q1 := hw'; go_simp; try with_reducible rfl
    simp only [Act.put, List.setIfInBounds_toArray, List.set_cons_zero, List.set_cons_succ]
    refine takeY 33 (i := 12) (v := ?vx11) rfl rfl (by kernel_rfl) (by kernel_rfl) (by kernel_rfl) (fun _ _ _ h => h) (by kernel_rfl) ?yx11 hS2 ?_
    case yx11 =>
      intro w' hw'; (try dsimp only at hw'); obtain q1 := hw'; go_simp; try with_reducible rfl
    simp only [Act.put, List.setIfInBounds_toArray, List.set_cons_zero, List.set_cons_succ]
    refine takeY 20 (i := 13) (v := ?vx12) rfl rfl (by kernel_rfl) (by kernel_rfl) (by kernel_rfl) (fun _ _ _ h => h) (by kernel_rfl) ?yx12 hS2 ?_
    case yx12 =>
      intro w' hw'; (try dsimp only at hw'); obtain q1 := hw'; go_simp; try with_reducible rfl
    simp only [Act.put, List.setIfInBounds_toArray, List.set_cons_zero, List.set_cons_succ]
    refine wpAnyH_done (by kernel_rfl) ?_ _
    have HB3 : Hid (Below W.heap.size W w3) := Lib.hid (below_on ((Below.refl _ W).drew.trans hb2) hb3)
    have hS3 := h.below C HB3.out
    have HS3 := Lib.hid hS3
    have HR3 := Lib.hid ((SrR.refl S B W (.slice Af nf cf)).below hBW HB3.out)
    have HX3 : Hid (BoxAt w1 B S p w3 (.slice Af nf cf) A n box) := Lib.hid (HBx.out.step HR3.out)
    clear hS0 hS1 hS2 hb2 hb3 ho2 HCo HIB h s0 s1
    have HAn : Hid ((found.map It.dat).any (fun y => belF f y.2 (cornD (box.map It.dat))) = z) := Lib.hid (by rw [HCn.out, List.any_map]; exact HZ.out)
    cases z
    case true =>
      have HE : Hid (boxD f (N + 1) d (box.map It.dat) (found.map It.dat, vis) = (found.map It.dat, vis)) := Lib.hid (boxD_out HNe.out HAn.out)
      clear hS3
      go_wp2
      go_end0
      exact ⟨rfl, _, found, vis, HS3.out, HE.out.symm, HR3.out⟩
    by_cases hbig : 2 < n
    · have hbig' : (2 : Int) < (n : Int) := by omega
      have hfn : fn ≤ 3 ∧ 0 < fn := by have h4 := C.fl.len; have h5 := C.fi.1; omega
      have HFn := Lib.hid C.fi.1
      obtain ⟨r, hr⟩ : ∃ r, d % fn = r := ⟨_, rfl⟩
      have hrl : r < fn := by rw [← hr]; exact Nat.mod_lt _ hfn.2
      have HRr := Lib.hid hr
      obtain ⟨bf, of, v, hfA, hbf, hat, hcf⟩ := (hS3.w.ints C.fi).at r hrl
      have hv := C.fl.2.1 v (List.mem_of_getElem? hat)
      obtain ⟨kk, hkv, hkk⟩ : ∃ kk : Nat, v = (kk : Int) ∧ kk < 3 := ⟨v.toNat, by unfold InF at hv; omega, by unfold InF at hv; omega⟩
      subst hkv
      obtain ⟨h, hh⟩ : ∃ h, n / 2 = h := ⟨_, rfl⟩
      have HCut : Hid (boxD f (N + 1) d (box.map It.dat) (found.map It.dat, vis) = boxD f N (d + 1) (((ordI box kk).drop h).map It.dat) (boxD f N (d + 1) (((ordI box kk).take h).map It.dat) (found.map It.dat, vis))) := Lib.hid (by
        have hfk : f.getD (d % f.length) 0 = (kk : Int) := by rw [HFn.out, HRr.out, List.getD_eq_getElem?_getD, hat]; rfl
        rw [boxD_cut (by rw [HLn.out]; exact hbig) HAn.out, hfk, ordI_half, HBn.out, hh])
      have hmod : Int.tmod (d : Int) (fn : Int) = (r : Int) := by rw [← hr]; exact (Int.ofNat_tmod d fn).symm
      have hmod2 : (d : Int) % (fn : Int) = (r : Int) := by rw [← hr]; exact (Int.natCast_emod d fn).symm
      have hq : Int.tdiv (n : Int) 2 = (h : Int) := by rw [← hh]; exact (Int.ofNat_tdiv n 2).symm
      have hq2 : (n : Int) / 2 = (h : Int) := by rw [← hh]; exact (Int.natCast_ediv n 2).symm
      have hhn : h ≤ n ∧ h < n ∧ 0 < h ∧ n - h < n := by omega
      have hf0 : ¬ (fn : Int) = 0 := by omega
      have hf0n : ¬ fn = 0 := by omega
      have hm1 : (r : Int) < (fn : Int) := by omega
      have hm0 : (0 : Int) ≤ (r : Int) := by omega
      subst hfA
      obtain ⟨⟨s0, s1, -⟩, -⟩ := sr_cells hS3.sb
      have HSo := Lib.hid (iSortedBy w3.drew B p kk hkk A n c box hn16 (HX3.out.r.below (Below.refl _ _).drew) (Nat.le_trans hB1 hS3.w.sz) (fun u hu => ⟨hS3.w.drew.ints (HX3.out.it u hu).1, (HX3.out.it u hu).2⟩))
      clear hh hr hat hv hS3
      go_wp2
      rename_i KX hKX
      have hS0 : (fun w' => w'.cell? ⟨S, 0, none⟩ = some (.slice (some ⟨bf, of, none⟩) fn fc) ∧ w'.cell? ⟨bf, of + r, none⟩ = some (.int .i64 (kk : Int))) w3.drew := ⟨s0, hcf⟩
      refine wp_region_held (S := fun w' => w'.cell? ⟨S, 0, none⟩ = some (.slice (some ⟨bf, of, none⟩) fn fc) ∧ w'.cell? ⟨bf, of + r, none⟩ = some (.int .i64 (kk : Int))) (by kernel_rfl) ?_
      change wpAnyH _ _ _ _ _ _ _ _ (World.drew _)
      refine takeY 38 (i := 0) (v := ?vx13) rfl rfl (by kernel_rfl) (by kernel_rfl) (by kernel_rfl) (fun _ _ _ h => h) (by kernel_rfl) ?yx13 hS0 ?_
      case yx13 =>
        intro w' hw'; (try dsimp only at hw'); obtain ⟨q1, q2⟩ := hw'; go_simp; (try rw [if_neg hf0n]); try with_reducible rfl
      try simp only [Act.put, List.setIfInBounds_toArray, List.set_cons_zero, List.set_cons_succ]
      refine takeY 39 (i := 1) (v := ?vx14) rfl rfl (by kernel_rfl) (by kernel_rfl) (by kernel_rfl) (fun _ _ _ h => h) (by kernel_rfl) ?yx14 hS0 ?_
      case yx14 =>
        intro w' hw'; (try dsimp only at hw'); obtain ⟨q1, q2⟩ := hw'; go_simp; (try rw [if_neg hf0n]); try with_reducible rfl
      try simp only [Act.put, List.setIfInBounds_toArray, List.set_cons_zero, List.set_cons_succ]
      refine takeY 40 (i := 2) (v := ?vx15) rfl rfl (by kernel_rfl) (by kernel_rfl) (by kernel_rfl) (fun _ _ _ h => h) (by kernel_rfl) ?yx15 hS0 ?_
      case yx15 =>
        intro w' hw'; (try dsimp only at hw'); obtain ⟨q1, q2⟩ := hw'; go_simp; (try rw [if_neg hf0n]); try with_reducible rfl
      try simp only [Act.put, List.setIfInBounds_toArray, List.set_cons_zero, List.set_cons_succ]
      refine takeY 41 (i := 3) (v := ?vx16) rfl rfl (by kernel_rfl) (by kernel_rfl) (by kernel_rfl) (fun _ _ _ h => h) (by kernel_rfl) ?yx16 hS0 ?_
      case yx16 =>
        intro w' hw'; (try dsimp only at hw'); obtain ⟨q1, q2⟩ := hw'; go_simp; (try rw [if_neg hf0n]); try with_reducible rfl
      try simp only [Act.put, List.setIfInBounds_toArray, List.set_cons_zero, List.set_cons_succ]
      refine takeY 42 (i := 4) (v := ?vx17) rfl rfl (by kernel_rfl) (by kernel_rfl) (by kernel_rfl) (fun _ _ _ h => h) (by kernel_rfl) ?yx17 hS0 ?_
      case yx17 =>
        intro w' hw'; (try dsimp only at hw'); obtain ⟨q1, q2⟩ := hw'; go_simp; (try rw [if_neg hf0n]); try with_reducible rfl
      try simp only [Act.put, List.setIfInBounds_toArray, List.set_cons_zero, List.set_cons_succ]
      refine takeY 43 (i := 5) (v := ?vx18) rfl rfl (by kernel_rfl) (by kernel_rfl) (by kernel_rfl) (fun _ _ _ h => h) (by kernel_rfl) ?yx18 hS0 ?_
      case yx18 =>
        intro w' hw'; (try dsimp only at hw'); obtain ⟨q1, q2⟩ := hw'; go_simp; (try rw [if_neg hf0n]); try with_reducible rfl
      try simp only [Act.put, List.setIfInBounds_toArray, List.set_cons_zero, List.set_cons_succ]
      refine takeY 44 (i := 6) (v := ?vx19) rfl rfl (by kernel_rfl) (by kernel_rfl) (by kernel_rfl) (fun _ _ _ h => h) (by kernel_rfl) ?yx19 hS0 ?_
      case yx19 =>
        intro w' hw'; (try dsimp only at hw'); obtain ⟨q1, q2⟩ := hw'; go_simp; (try rw [if_neg hf0n]); try with_reducible rfl
      try simp only [Act.put, List.setIfInBounds_toArray, List.set_cons_zero, List.set_cons_succ]
      refine takeY 45 (i := 7) (v := ?vx20) rfl rfl (by kernel_rfl) (by kernel_rfl) (by kernel_rfl) (fun _ _ _ h => h) (by kernel_rfl) ?yx20 hS0 ?_
      case yx20 =>
        intro w' hw'; (try dsimp only at hw'); obtain ⟨q1, q2⟩ := hw'; go_simp; (try rw [if_neg hf0n]); try with_reducible rfl
      try simp only [Act.put, List.setIfInBounds_toArray, List.set_cons_zero, List.set_cons_succ]
      refine takeY 46 (i := 8) (v := ?vx21) rfl rfl (by kernel_rfl) (by kernel_rfl) (by kernel_rfl) (fun _ _ _ h => h) (by kernel_rfl) ?yx21 hS0 ?_
      case yx21 =>
        intro w' hw'; (try dsimp only at hw'); obtain ⟨q1, q2⟩ := hw'; go_simp; (try rw [if_neg hf0n]); try with_reducible rfl
      try simp only [Act.put, List.setIfInBounds_toArray, List.set_cons_zero, List.set_cons_succ]
      refine takeY 47 (i := 9) (v := ?vx22) rfl rfl (by kernel_rfl) (by kernel_rfl) (by kernel_rfl) (fun _ _ _ h => h) (by kernel_rfl) ?yx22 hS0 ?_
      case yx22 =>
        intro w' hw'; (try dsimp only at hw'); obtain ⟨q1, q2⟩ := hw'; go_simp; (try rw [if_neg hf0n]); try with_reducible rfl
      try simp only [Act.put, List.setIfInBounds_toArray, List.set_cons_zero, List.set_cons_succ]
      refine takeY 48 (i := 10) (v := ?vx23) rfl rfl (by kernel_rfl) (by kernel_rfl) (by kernel_rfl) (fun _ _ _ h => h) (by kernel_rfl) ?yx23 hS0 ?_
      case yx23 =>
        intro w' hw'; (try dsimp only at hw'); obtain ⟨q1, q2⟩ := hw'; go_simp; (try rw [if_neg hf0n]); try with_reducible rfl
      try simp only [Act.put, List.setIfInBounds_toArray, List.set_cons_zero, List.set_cons_succ]
      refine takeY 49 (i := 11) (v := ?vx24) rfl rfl (by kernel_rfl) (by kernel_rfl) (by kernel_rfl) (fun _ _ _ h => h) (by kernel_rfl) ?yx24 hS0 ?_
      case yx24 =>
        intro w' hw'; (try dsimp only at hw'); obtain ⟨q1, q2⟩ := hw'; go_simp; (try rw [if_neg hf0n]); try with_reducible rfl
      try simp only [Act.put, List.setIfInBounds_toArray, List.set_cons_zero, List.set_cons_succ]
      refine takeY 50 (i := 12) (v := ?vx25) rfl rfl (by kernel_rfl) (by kernel_rfl) (by kernel_rfl) (fun _ _ _ h => h) (by kernel_rfl) ?yx25 hS0 ?_
      case yx25 =>
        intro w' hw'; (try dsimp only at hw'); obtain ⟨q1, q2⟩ := hw'; go_simp; (try rw [if_neg hf0n]); try with_reducible rfl
      try simp only [Act.put, List.setIfInBounds_toArray, List.set_cons_zero, List.set_cons_succ]
      refine takeY 51 (i := 13) (v := ?vx26) rfl rfl (by kernel_rfl) (by kernel_rfl) (by kernel_rfl) (fun _ _ _ h => h) (by kernel_rfl) ?yx26 hS0 ?_
      case yx26 =>
        intro w' hw'; (try dsimp only at hw'); obtain ⟨q1, q2⟩ := hw'; go_simp; (try rw [if_neg hf0n]); try with_reducible rfl
      try simp only [Act.put, List.setIfInBounds_toArray, List.set_cons_zero, List.set_cons_succ]
      refine takeY 53 (i := 15) (v := ?vx27) rfl rfl (by kernel_rfl) (by kernel_rfl) (by kernel_rfl) (fun _ _ _ h => h) (by kernel_rfl) ?yx27 hS0 ?_
      case yx27 =>
        intro w' hw'; (try dsimp only at hw'); obtain ⟨q1, q2⟩ := hw'; go_simp; (try rw [if_neg hf0n]); try with_reducible rfl
      try simp only [Act.put, List.setIfInBounds_toArray, List.set_cons_zero, List.set_cons_succ]
      refine takeY 54 (i := 16) (v := ?vx28) rfl rfl (by kernel_rfl) (by kernel_rfl) (by kernel_rfl) (fun _ _ _ h => h) (by kernel_rfl) ?yx28 hS0 ?_
      case yx28 =>
        intro w' hw'; (try dsimp only at hw'); obtain ⟨q1, q2⟩ := hw'; go_simp; (try rw [if_neg hf0n]); try with_reducible rfl
      try simp only [Act.put, List.setIfInBounds_toArray, List.set_cons_zero, List.set_cons_succ]
      refine takeY 55 (i := 17) (v := ?vx29) rfl rfl (by kernel_rfl) (by kernel_rfl) (by kernel_rfl) (fun _ _ _ h => h) (by kernel_rfl) ?yx29 hS0 ?_
      case yx29 =>
        intro w' hw'; (try dsimp only at hw'); obtain ⟨q1, q2⟩ := hw'; go_simp; (try rw [if_neg hf0n]); try with_reducible rfl
      try simp only [Act.put, List.setIfInBounds_toArray, List.set_cons_zero, List.set_cons_succ]
      refine wpAnyH_ready (rs := [14]) (by kernel_rfl) (by simp) ?_
      refine (AllReadyH.cons rfl (fun K hK => ?_) AllReadyH.nil)
      go_simp
      go_at_call 33
      refine HSo.out.mono ?_
      rintro e w4 ⟨⟨v4, rfl, ho4⟩, hb4⟩
      obtain ⟨A4, c4, rfl, hc4, -⟩ := ho4.shape
      have hl4 : (sortL (ltK fun u => fval u kk) box).length = n := by rw [sortL_len]; exact HBn.out
      rw [hl4] at ho4 hc4 ⊢
      refine hK.out _ _ (⟨(hb4.cell (p := ⟨S, 0, none⟩) (Array.getElem?_eq_some_iff.1 HS3.out.sb).1).trans s0, (hb4.cell (p := ⟨bf, of + r, none⟩) (Nat.lt_of_lt_of_le hbf (Nat.le_trans hB1 HS3.out.w.sz))).trans hcf⟩) (fun hS1 => ?_)
      clear hK K
      try simp only [Act.put, List.setIfInBounds_toArray, List.set_cons_zero, List.set_cons_succ]
      refine takeY 6 (i := 18) (v := ?vx30) rfl rfl (by kernel_rfl) (by kernel_rfl) (by kernel_rfl) (fun _ _ _ h => h) (by kernel_rfl) ?yx30 hS1 ?_
      case yx30 =>
        intro w' hw'; (try dsimp only at hw'); obtain ⟨q1, q2⟩ := hw'; go_simp; (try rw [if_neg hf0n]); try with_reducible rfl
      try simp only [Act.put, List.setIfInBounds_toArray, List.set_cons_zero, List.set_cons_succ]
      refine takeY 7 (i := 19) (v := ?vx31) rfl rfl (by kernel_rfl) (by kernel_rfl) (by kernel_rfl) (fun _ _ _ h => h) (by kernel_rfl) ?yx31 hS1 ?_
      case yx31 =>
        intro w' hw'; (try dsimp only at hw'); obtain ⟨q1, q2⟩ := hw'; go_simp; (try rw [if_neg hf0n]); try with_reducible rfl
      try simp only [Act.put, List.setIfInBounds_toArray, List.set_cons_zero, List.set_cons_succ]
      refine wpAnyH_done (by kernel_rfl) ?_ _
      have hwr : IntKind.i64.wrap (h : Int) = (h : Int) := IntWalk.i64_in _ ⟨by omega, by omega⟩
      rw [hwr]
      refine hKX _ _ ?_
      clear hKX KX hS0 hS1 s0 s1 HSo
      obtain ⟨g, rfl⟩ : ∃ g, A4 = some ⟨g, 0, none⟩ := by
        rcases ho4.row with ⟨e, e2⟩ | ⟨g, cap, F, e, _⟩
        · rw [e2] at hl4
          exact absurd hl4.symm h0
        · injection e with e1
          exact ⟨g, e1⟩
      have hg1 : w3.heap.size ≤ g := ho4.lows g rfl
      have hg2 : g < w4.heap.size := ho4.tops g rfl
      have hB34 : Below w3.heap.size w3 w4 := (Below.refl _ w3).drew.trans hb4
      have HS4 : Hid (SrS w1 B S lo p (some ⟨bf, of, none⟩) fn fc w4 (.slice Af nf cf) found vis) := Lib.hid (HS3.out.below HC.out hB34)
      have HR4 := Lib.hid (HR3.out.below hBW hB34)
      have hrd : ReadG (ctCells p) 3 w4 w4.heap.size (some ⟨g, 0, none⟩) n (ordI box kk) := OwnG.read (ctCells_len p) ho4
      have hbg : g ≠ S ∧ (Value.slice Af nf cf).ownBlock ≠ some g ∧ g < w4.heap.size := ⟨fun e => by have h1 := (Array.getElem?_eq_some_iff.1 HS3.out.sb).1; omega, fun e => by have h1 := HS3.out.own.tops g e; omega, hg2⟩
      have hit : ∀ u ∈ ordI box kk, Ints w1 B u.A u.n u.xs ∧ IsP u.dat := fun u hu => HX3.out.it u (sortL_mem.1 hu)
      have HXa : Hid (BoxAt w1 B S p w4 (.slice Af nf cf) (some ⟨g, 0, none⟩) h ((ordI box kk).take h)) := Lib.hid ⟨hrd.take hhn.1, fun _ b off e => by cases e; exact hbg, fun u hu => hit u (List.mem_of_mem_take hu)⟩
      have HXb : Hid (BoxAt w1 B S p w4 (.slice Af nf cf) (some ⟨g, h * 3, none⟩) (n - h) ((ordI box kk).drop h)) := Lib.hid ⟨by have h1 := hrd.drop hhn.1; rw [Nat.zero_add] at h1; exact h1, fun _ b off e => by cases e; exact hbg, fun u hu => hit u (List.mem_of_mem_drop hu)⟩
      have hd1 : ((d + 1 : Nat) : Int) = (d : Int) + 1 := by omega
      have HC1 := Lib.hid (HIH.out w4 (.slice Af nf cf) found vis HS4.out _ h c4 _ HXa.out (by omega) (by omega) (by omega) (d + 1) (by omega) (by rw [HNf.out]; omega) (by omega))
      have hl1 : (((ordI box kk).take h).map It.dat).length = h := by rw [List.length_map]; exact HXa.out.r.len
      rw [hd1] at HC1
      have hh4 : (h : Int) ≤ (c4 : Int) := by omega
      have hh5 : (h : Int) ≤ (n : Int) := by omega
      have hh0 : (0 : Int) ≤ (h : Int) := by omega
      clear hrd hbg hit ho4 hb4 hB34 hcf hm1 hm0 hmod hmod2 hq hq2 hf0 hf0n hl4 HX3 HR3 HS3 HB3
      go_wp2_with fail
      refine HC1.out.mono ?_
      rintro e w6 ⟨rfl, fv6, found6, vis6, hS6, hE6, hR6⟩
      have hb6 := boxD_len f N (d + 1) (((ordI box kk).take h).map It.dat) (found.map It.dat, vis)
      rw [← hE6, hl1] at hb6
      simp only [List.length_map] at hb6
      rw [HNf.out] at hb6
      have HC2 := Lib.hid (HIH.out w6 fv6 found6 vis6 hS6 _ (n - h) (c4 - h) _ (HXb.out.step hR6) (by omega) (by omega) (by omega) (d + 1) (by omega) (by omega) (by omega))
      rw [hd1] at HC2
      have HS6 := Lib.hid hS6
      have HR6 := Lib.hid (HR4.out.trans hR6)
      have HE6 := Lib.hid hE6
      clear hS6 hR6 hE6 HC1 HXa HXb HS4 HR4
      go_wp2_with fail
      refine HC2.out.mono ?_
      rintro e w7 ⟨rfl, fv7, found7, vis7, hS7, hE7, hR7⟩
      go_wp2
      go_end0
      exact ⟨rfl, fv7, found7, vis7, hS7, by rw [HCut.out, ← HE6.out]; exact hE7, HR6.out.trans hR7⟩
    · have hbig' : ¬ (2 : Int) < (n : Int) := by omega
      have HE : Hid (boxD f (N + 1) d (box.map It.dat) (found.map It.dat, vis) = (box.map It.dat).foldl (lookD f) (found.map It.dat, vis)) := Lib.hid (boxD_look HNe.out (by rw [HLn.out]; exact hbig) HAn.out)
      clear hS3
      go_wp2
      go_loopw [12] (fun iv wr => ∃ k : Nat, k ≤ n ∧ iv = .int .i64 k ∧ ∃ fv1 found1, SrS w1 B S lo p fA fn fc wr fv1 found1 (vis + k) ∧ (found1.map It.dat, vis + k) = ((box.take k).map It.dat).foldl (lookD f) (found.map It.dat, vis) ∧ SrR S B W (.slice Af nf cf) wr fv1 ∧ found1.length ≤ nf + k) (fun iv _ => n - (intOf iv).toNat)
      case atStart => exact ⟨0, Nat.zero_le _, rfl, _, found, HS3.out, rfl, HR3.out, Nat.le_of_eq HNf.out⟩
      case round =>
        obtain ⟨k, hk, rfl, fv1, found1, hs, he, hr, hfl⟩ := hrel
        have HE1 := Lib.hid he
        have HR1 := Lib.hid hr
        by_cases hlt : k < n
        · obtain ⟨b', off', x, hA', hb', hat, hd0, hd1, hd2⟩ := ct_at (HBx.out.step hr).r k hlt
          have HXx := Lib.hid (HBx.out.it x (mem_of_at hat))
          have HT : Hid ((box.take (k + 1)).map It.dat = (box.take k).map It.dat ++ [x.dat]) := Lib.hid (by rw [take_at hat, List.map_append]; rfl)
          subst hA'
          have hlt' : (k : Int) < (n : Int) := by omega
          obtain ⟨w5, hw5⟩ : ∃ w5, wr.alloc (.cells #[.int .i64 x.id, .slice x.A x.n x.c, .pointer (some ⟨p, 0, none⟩)] 61) = w5 := ⟨_, rfl⟩
          have hb5 : Below wr.heap.size wr w5 := by rw [← hw5]; exact (Below.refl _ wr).alloc (Nat.le_refl _) _
          have HL := Lib.hid (iLook w1 B S lo p f fA fn fc HC.out w5 fv1 found1 (vis + k) (hs.below HC.out hb5) x HXx.out (by omega) (by omega))
          have HR5 := Lib.hid (hr.below hBW hb5)
          have hx5 : w5.heap[wr.heap.size]? = some (.cells #[.int .i64 x.id, .slice x.A x.n x.c, .pointer (some ⟨p, 0, none⟩)] 61 (0, 0)) := by
            rw [← hw5]
            show (wr.heap.push _)[wr.heap.size]? = _
            exact Array.getElem?_push_size
          obtain ⟨⟨x0, x1, x2⟩, -⟩ := sr_cells hx5
          obtain ⟨gx, hgx⟩ : ∃ gx, wr.heap.size = gx := ⟨_, rfl⟩
          rw [hgx] at x0 x1 x2
          clear hx5 hb5 hs he hr
          go_wp2_with fail
          refine HL.out.mono ?_
          rintro e w6 ⟨rfl, fv6, found6, hS6, hE6, hR6⟩
          have HS6 := Lib.hid hS6
          have HR6 := Lib.hid (HR5.out.trans hR6)
          have HE6 := Lib.hid hE6
          have HLn6 : Hid (found6.length ≤ nf + (k + 1)) := Lib.hid (by
            have h1 := (lookD_len f (found1.map It.dat, vis + k) x.dat).1
            rw [← hE6] at h1
            simp only [List.length_map] at h1
            omega)
          clear hS6 hR6 hE6
          go_wp2
          go_roundw
          case rel => exact ⟨k + 1, by omega, by go_num, fv6, found6, HS6.out, by rw [HT.out, List.foldl_append, ← HE1.out]; exact HE6.out, HR6.out, HLn6.out⟩
          case measure => simp [intOf] <;> omega
        · obtain rfl : k = n := by omega
          have hbf : box.take k = box := take_all HBn.out
          rw [hbf] at he
          have HE2 := Lib.hid he
          have HS1 := Lib.hid hs
          clear hr hs he
          go_wp2
          go_end0
          exact ⟨rfl, fv1, found1, vis + k, HS1.out, by rw [HE.out]; exact HE2.out, HR1.out⟩
end Go.Proofs.YtnbgmiiknndleaaGreat.num
namespace Go.Proofs.YtnbgmiiknndleaaGreat.num
set_option maxRecDepth 20000
open Go.RowKit
set_option linter.unusedVariables false
set_option linter.unusedSimpArgs false

set_option maxRecDepth 20000 in
set_option maxHeartbeats 800000 in
theorem ctIdsW (w : World) (p : Nat) (A : Option Addr) (n c : Nat) (l : List It) (h : ReadG (ctCells p) 3 w w.heap.size A n l) (hn : n ≤ 4194304) :
    Calls Tryz.prog 37 #[.slice A n c] w fun e w' => (∃ v, e = .returned v ∧ OwnI w' w.heap.size v (idL l)) ∧ Below w.heap.size w w' := by
  have hmk := run_make_row' (P := Tryz.prog) 23 3 (.int .i64 0) 8 Tryz.underlying23 info_int rfl .i64 .i64 n (by omega) (by omega)
  have HX := Lib.hid h
  clear h
  go_enter Tryz.func37, Tryz.ntmps37
  go_wp2
  clear hmk
  go_loopw [11] (fun i wr => ∃ k : Nat, k ≤ n ∧ i = .int .i64 k ∧ wr.rowIs w.heap.size 3 n (fun j => if j < k then .int .i64 ((idL l).getD j 0) else .int .i64 0) ∧ Below w.heap.size w wr) (fun i _ => n - (intOf i).toNat)
  case atStart =>
    exact ⟨0, Nat.zero_le _, rfl, by simpa using World.rowIs_made w (.int .i64 0) n 3, (Below.refl _ _).alloc (Nat.le_refl _) _⟩
  case round =>
    obtain ⟨k, hk, rfl, hrow, hbel⟩ := hrel
    have HR := Lib.hid hrow
    have HB := Lib.hid hbel
    by_cases hlt : k < n
    · obtain ⟨x, hat⟩ := HX.out.get hlt
      obtain ⟨b, off, rfl, hb, hc⟩ := HX.out.at' k x hat
      have f0 := (hbel.cell (p := ⟨b, off + k * 3, none⟩) hb).trans (hc 0 _ rfl)
      have f1 := (hbel.cell (p := ⟨b, off + k * 3 + 1, none⟩) hb).trans (hc 1 _ rfl)
      have f2 := (hbel.cell (p := ⟨b, off + k * 3 + 2, none⟩) hb).trans (hc 2 _ rfl)
      have hl1 := World.rowIs.lt hrow
      have g1 : wr.cell? ⟨w.heap.size, k, none⟩ = some (.int .i64 0) := by rw [World.rowIs.cell hrow hlt, if_neg (by omega)]
      have g2 := World.rowIs.frozen hrow k
      have HAt := Lib.hid hat
      have hsz := Lib.hid hbel.size
      clear hrow hbel hc hat
      go_wp2
      go_roundw
      case rel =>
        refine ⟨k + 1, by omega, by go_num, ?_, ?_⟩
        · first
          | exact (World.rowIs.set (World.rowIs.alloc HR.out _) k (.int .i64 x.id)).congr (fun j _ => by rw [← idL_get HAt.out]; exact getD_prefix (idL l) k j)
          | exact (World.rowIs.alloc (World.rowIs.set HR.out k (.int .i64 x.id)) _).congr (fun j _ => by rw [← idL_get HAt.out]; exact getD_prefix (idL l) k j)
        · first
          | exact (HB.out.alloc hsz.out _).setCell (Nat.le_refl _) _
          | exact (HB.out.setCell (p := ⟨w.heap.size, k, none⟩) (Nat.le_refl _) _).alloc (by simp [World.setCell]; exact hsz.out) _
      case measure => simp [intOf]; omega
    · obtain rfl : k = n := by omega
      clear hrow hbel
      go_wp2
      go_ret
      refine ⟨⟨_, rfl, ?_⟩, HB.out⟩
      have hl : (idL l).length = k := by rw [idL_len, HX.out.len]
      refine ownI_of_row (Nat.le_refl _) hl (Nat.le_refl _) (by unfold maxLen; omega) HR.out fun j hj => ?_
      rw [if_pos hj, List.getElem?_map, List.getD_eq_getElem?_getD, List.getElem?_eq_getElem (by omega)]; rfl
end Go.Proofs.YtnbgmiiknndleaaGreat.num
namespace Go.Proofs.YtnbgmiiknndleaaGreat.num
set_option maxRecDepth 20000
open Go.RowKit
set_option linter.unusedVariables false
set_option linter.unusedSimpArgs false

theorem sort_merge (l : List Int) : SortP l (l.mergeSort fun x y => decide (x ≤ y)) := by
  refine ⟨?_, List.mergeSort_perm _ _⟩
  have h := List.pairwise_mergeSort (le := fun (x y : Int) => decide (x ≤ y)) (fun a b c h1 h2 => by simp at h1 h2 ⊢; omega) (fun a b => by simp; omega) l
  exact h.imp fun h => by simpa using h
/-- slices.Sort over a row of ints of the call's own. -/
theorem sort_own (w : World) (B : Nat) (A : Option Addr) (n c : Nat) (l : List Int) (h : OwnI w B (.slice A n c) l) (hn : n ≤ 4194304) :
    Calls Tryz.prog 38 #[.slice A n c] w fun e w' => e = .returned (.tuple #[]) ∧ (∃ s, SortP l s ∧ OwnI w' B (.slice A n c) s) ∧ w.grownBy w' (Value.slice A n c).ownBlock := by
  rcases h.2 with ⟨e, hl⟩ | ⟨g, cap, cur, e, hB, hg, h1, h2, h3, h4⟩
  · injection e with e1 e2 e3
    subst e1 e2 e3
    refine (Tryz.slices_Sort_int_none none 0 w).mono ?_
    rintro e w' ⟨rfl, rfl⟩
    obtain rfl : l = [] := List.eq_nil_of_length_eq_zero (by simpa using hl)
    exact ⟨rfl, ⟨[], ⟨List.Pairwise.nil, .refl _⟩, h⟩, ⟨rfl, rfl, rfl, Nat.le_refl _, fun _ _ _ => rfl⟩⟩
  · injection e with e1 e2 e3
    subst e1 e2 e3
    have hH := Go.holds_of_blockI hg (ss := l) (by simpa using h4)
    refine (Tryz.slices_Sort_int g 0 c l w hH (lt_of_block hg) (by omega)).mono ?_
    rintro e w' ⟨rfl, n', os, rfl⟩
    have hs := sort_merge l
    refine ⟨rfl, ⟨_, hs, ?_⟩, Go.grownBy_sortedI _⟩
    have ho := Go.ownsRow_sortedI (n := n') (os := os) (ss := l) (ts := l.mergeSort fun x y => decide (x ≤ y)) (base := B) hs.len hB hg h1 h2 (by simpa using h3)
    unfold OwnI
    rw [hs.len]
    exact ho
set_option maxRecDepth 20000 in
theorem iSorted (w : World) (p : Nat) (A : Option Addr) (n c : Nat) (l : List It) (h : ReadG (ctCells p) 3 w w.heap.size A n l) (hn : n ≤ 4194304) :
    Calls Tryz.prog 23 #[.slice A n c] w fun e w' => (∃ v s, e = .returned v ∧ SortP (idL l) s ∧ OwnI w' w.heap.size v s) ∧ Below w.heap.size w w' := by
  have HI := Lib.hid (ctIdsW w p A n c l h hn)
  have HL : Hid ((idL l).length = n) := Lib.hid (by rw [idL_len, h.len])
  clear h
  go_enter Tryz.func23, Tryz.ntmps23
  go_wp2_with fail
  refine HI.out.mono ?_
  rintro e w1 ⟨⟨v, rfl, ho⟩, hb1⟩
  have HB1 := Lib.hid hb1
  obtain ⟨A', n', c', rfl, hi⟩ := ho.ints
  have hn' : n' ≤ 4194304 := by have h1 := hi.1; have h2 := HL.out; omega
  have HO := Lib.hid ho
  clear ho hb1 hi HI
  go_wp2_with fail
  refine (sort_own w1 w.heap.size A' n' c' _ HO.out hn').mono ?_
  rintro e w2 ⟨rfl, ⟨s, hs, ho⟩, hg⟩
  have HS := Lib.hid hs
  have HO2 := Lib.hid ho
  have HB2 := Lib.hid (HB1.out.grown hg HB1.out.size (fun k hk => ownI_lows HO.out k hk))
  clear hs ho hg
  go_wp2
  go_ret
  exact ⟨⟨_, s, rfl, HS.out, HO2.out⟩, HB2.out⟩
end Go.Proofs.YtnbgmiiknndleaaGreat.num
namespace Go.Proofs.YtnbgmiiknndleaaGreat.num
set_option maxRecDepth 20000
open Go.RowKit
set_option linter.unusedVariables false
set_option linter.unusedSimpArgs false

theorem PartAt.top {w : World} {B lo : Nat} : ∀ {t : Tr} {p : Nat}, PartAt w B lo t p → lo ≤ p ∧ p < w.heap.size
  | .base _, _, ⟨a, b, _⟩ => ⟨a, b⟩
  | .dual _, _, ⟨a, b, _⟩ => ⟨a, b⟩
  | .bin _ _ _, _, ⟨a, b, _⟩ => ⟨a, b⟩
def GoNil (W : World) (e : Ending) (w' : World) : Prop := e = .returned (.tuple #[]) ∧ Below W.heap.size W w'
set_option maxRecDepth 20000 in
theorem iGo0 (W : World) (S : Nat) (A : Option Addr) (c : Nat) (d : Int) :
    Calls Tryz.prog 21 #[.pointer (some ⟨S, 0, none⟩), .slice A 0 c, .int .i64 d] W (GoNil W) := by
  go_enter Tryz.func21, Tryz.ntmps21
  go_wp2
  go_quiet (fail)
  go_wp2
  go_end0
  exact ⟨rfl, below_drewN (Below.refl _ _) _⟩
def GoAny (w : World) (its : List It) (f : List Int) (e : Ending) (w' : World) : Prop :=
  e = .returned (.tuple #[]) ∧ ∃ (p : Nat) (A' : Option Addr) (n' c' : Nat) (found : List It) (vis : Nat), w'.cell? ⟨w.heap.size, 1, none⟩ = some (.slice A' n' c') ∧ w'.cell? ⟨w.heap.size, 2, none⟩ = some (.int .i64 (vis : Int)) ∧ ReadG (ctCells p) 3 w' w'.heap.size A' n' found ∧ n' ≤ 16 ∧ w.heap.size < w'.heap.size ∧ Below w.heap.size w w' ∧ (FL f ∧ AreP (its.map It.dat) → (found.map It.dat, vis) = boxD f (its.map It.dat).length 0 (its.map It.dat) ([], 0)) ∧ (¬ (FL f ∧ AreP (its.map It.dat)) → found = [] ∧ vis = 0)
theorem goAny_sort {its found : List It} {f D : List Int} {P : Int} {vis : Nat} (hD : BoxP (its.map It.dat) f D P) (hy : FL f ∧ AreP (its.map It.dat) → (found.map It.dat, vis) = boxD f (its.map It.dat).length 0 (its.map It.dat) ([], 0)) (hn : ¬ (FL f ∧ AreP (its.map It.dat)) → found = [] ∧ vis = 0) : SortP (idL found) D ∧ P = (vis : Int) := by
  by_cases h : FL f ∧ AreP (its.map It.dat)
  · have h1 := hD.yes h.1 h.2
    rw [← hy h] at h1
    have e : idL found = idsD (found.map It.dat) := by unfold idL idsD; rw [List.map_map]; rfl
    rw [e]
    exact h1
  · obtain ⟨rfl, rfl⟩ := hn h
    obtain ⟨rfl, rfl⟩ := hD.no h
    exact ⟨⟨List.Pairwise.nil, .refl _⟩, rfl⟩
set_option maxRecDepth 20000 in
set_option maxHeartbeats 6400000 in
theorem iBoxBest (w : World) (B : Nat) (A : Option Addr) (n c : Nat) (its : List It) (h : ItB w B A n its) (B2 : Nat) (A2 : Option Addr) (n2 c2 : Nat) (f : List Int) (hf : Ints w B2 A2 n2 f) (hB2 : B2 ≤ w.heap.size) (hn2 : n2 ≤ 1048576) (D : List Int) (P : Int) (hD : BoxP (its.map It.dat) f D P) :
    Calls Tryz.prog 8 #[.slice A n c, .slice A2 n2 c2] w fun e w' => (∃ v, e = .returned (.tuple #[v, .int .i64 P]) ∧ OwnI w' w.heap.size v D) ∧ Below w.heap.size w w' := by
  obtain ⟨q, hq⟩ := bool_of (FL f)
  obtain ⟨w0, hw0⟩ : ∃ w0, w.alloc (.cells #[.slice A2 n2 c2, .slice none 0 0, .int .i64 0] 48) = w0 := ⟨_, rfl⟩
  have hb0 : Below w.heap.size w w0 := by rw [← hw0]; exact (Below.refl _ w).alloc (Nat.le_refl _) _
  have hs0 : w0.heap.size = w.heap.size + 1 := by rw [← hw0]; simp
  have hS0 : w0.heap[w.heap.size]? = some (.cells #[.slice A2 n2 c2, .slice none 0 0, .int .i64 0] 48 (0, 0)) := by
    rw [← hw0]
    show (w.heap.push _)[w.heap.size]? = _
    exact Array.getElem?_push_size
  have HC := Lib.hid (iLowC w0 B A n c its (h.below hb0) B2 A2 n2 c2 f (hf.below (hb0.mono hB2)) (by omega) hn2 q hq)
  have HB0 := Lib.hid hb0
  have HS0 := Lib.hid hS0
  have HI := Lib.hid h
  have HF := Lib.hid hf
  have HQ := Lib.hid hq
  have HD := Lib.hid hD
  have HW0 := Lib.hid hw0
  clear h hf hq hD hb0 hS0 hw0
  go_enter Tryz.func8, Tryz.ntmps8
  go_wp2_with fail
  rw [HW0.out]
  refine HC.out.mono ?_
  rintro e w1 ⟨hout, hb1⟩
  have hb1' : Below w.heap.size w w1 := below_on HB0.out hb1
  have hS1 := (hb1.block w.heap.size (by omega)).trans HS0.out
  obtain ⟨Ac, nc, cc, rfl, HG⟩ : ∃ Ac nc cc, e = .returned (.slice Ac nc cc) ∧ Hid (Calls Tryz.prog 21 #[.pointer (some ⟨w.heap.size, 0, none⟩), .slice Ac nc cc, .int .i64 0] w1 (GoAny w its f)) := by
    rcases hout with ⟨p, g, lo, B', hqt, ha, rfl, hct, hlo⟩ | ⟨hno, rfl⟩
    · refine ⟨_, _, _, rfl, Lib.hid ?_⟩
      have hfl := HQ.out.1 hqt
      have hn16 : n ≤ 16 := by have h1 := ha.2.2; rw [List.length_map, hct.r.len] at h1; exact h1
      have hlen : its.length = n := hct.r.len
      have hIt : ∀ u ∈ its, Ints w1 w.heap.size u.A u.n u.xs ∧ IsP u.dat := fun u hu => ⟨((HI.out.i.mem hu).below (hb1'.mono HI.out.hB)).more HI.out.hB, ha.1 _ (List.mem_map_of_mem hu)⟩
      have hC : SrC w1 w.heap.size w.heap.size lo p f A2 n2 := ⟨Nat.le_refl _, by omega, by have h1 := hct.t.top; omega, hct.t.noLists (lowT_no f), hfl, (HF.out.below (hb1'.mono hB2)).more hB2⟩
      have hS : SrS w1 w.heap.size w.heap.size lo p A2 n2 c2 w1 (.slice none 0 0) [] 0 := ⟨⟨fun _ _ => rfl, fun _ _ _ => rfl, Nat.le_refl _⟩, hS1, OwnG.nil _ _, fun u hu => by cases hu⟩
      have hbx : BoxAt w1 w.heap.size w.heap.size p w1 (.slice none 0 0) (some ⟨g, 0, none⟩) n its := ⟨hct.r, fun h0 b off e => (by
        obtain ⟨b', off', x, e', hb', hat, hc0, -, -⟩ := ct_at hct.r 0 h0
        rw [e] at e'
        injection e' with e1
        injection e1 with e2 e3
        subst e2 e3
        refine ⟨fun e => ?_, fun e => (by cases e), hb'⟩
        have e3 : off = 0 := by injection ‹some (⟨g, 0, none⟩ : Addr) = _› with h1; injection h1 with _ h2; exact h2.symm
        subst e e3
        have h2 := hc0.symm.trans (sr_cells hS1).1.1
        cases Option.some.inj h2), hIt⟩
      have hG := iGo w1 w.heap.size w.heap.size lo p f A2 n2 c2 hC n w1 (.slice none 0 0) [] 0 hS (some ⟨g, 0, none⟩) n n its hbx (Nat.le_refl _) hn16 (Nat.le_refl _) 0 (by omega) (by show 0 + n ≤ 64; omega) (by omega)
      exact hG.mono fun e w' ⟨he, fv', found', vis', hs, hd, hr⟩ => by
        obtain ⟨A', c', rfl, -, -⟩ := hs.own.shape
        obtain ⟨⟨-, s1, s2⟩, -⟩ := sr_cells hs.sb
        have hb := boxD_len f n 0 (its.map It.dat) ([], 0)
        have hd' : (found'.map It.dat, vis') = boxD f n 0 (its.map It.dat) ([], 0) := hd
        rw [← hd'] at hb
        simp only [List.length_map, List.length_nil] at hb
        exact ⟨he, p, A', _, c', found', vis', s1, s2, hs.own.read (ctCells_len p), by omega, (Array.getElem?_eq_some_iff.1 hs.sb).1, hb1'.trans hr.k.bl, fun _ => by rw [List.length_map, hlen]; exact hd', fun hn => absurd ⟨hfl, ha⟩ hn⟩
    · refine ⟨_, _, _, rfl, Lib.hid ((iGo0 w1 w.heap.size none 0 0).mono fun e w' ⟨he, hb⟩ => ?_)⟩
      have hS' := (hb.block _ (Array.getElem?_eq_some_iff.1 hS1).1).trans hS1
      obtain ⟨⟨-, s1, s2⟩, -⟩ := sr_cells hS'
      exact ⟨he, 0, none, 0, 0, [], 0, s1, s2, ReadG.nil _ _ _, by decide, (Array.getElem?_eq_some_iff.1 hS').1, below_on hb1' hb, fun hy => absurd ⟨HQ.out.2 hy.1, hy.2⟩ hno, fun _ => ⟨rfl, rfl⟩⟩
  clear hout hb1 hb1' hS1 HC HS0 HB0 HI HF HW0 hs0
  go_wp2_with fail
  refine HG.out.mono ?_
  rintro e w2 ⟨rfl, p, A', n', c', found, vis, s1, s2, hrd, hn16, hSz, hb2, hy, hn⟩
  obtain ⟨hsp, hP⟩ := goAny_sort HD.out hy hn
  subst hP
  have HSp := Lib.hid hsp
  have HB2 := Lib.hid hb2
  have HSo := Lib.hid (iSorted w2.drew p A' n' c' found (hrd.below (Below.refl _ _).drew) (by omega))
  clear hsp hb2 hrd hy hn HG HD
  go_wp2
  have hS0 : (fun w' => w'.cell? ⟨w.heap.size, 1, none⟩ = some (.slice A' n' c') ∧ w'.cell? ⟨w.heap.size, 2, none⟩ = some (.int .i64 (vis : Int))) w2.drew := ⟨s1, s2⟩
  refine wp_region_held (S := fun w' => w'.cell? ⟨w.heap.size, 1, none⟩ = some (.slice A' n' c') ∧ w'.cell? ⟨w.heap.size, 2, none⟩ = some (.int .i64 (vis : Int))) (by kernel_rfl) ?_
  change wpAnyH _ _ _ _ _ _ _ _ (World.drew _)
  refine takeY 13 (i := 0) (v := ?vx1) rfl rfl (by kernel_rfl) (by kernel_rfl) (by kernel_rfl) (fun _ _ _ h => h) (by kernel_rfl) ?yx1 hS0 ?_
  case yx1 =>
    intro w' hw'; (try dsimp only at hw'); obtain ⟨q1, q2⟩ := hw'; go_simp; try with_reducible rfl
  simp only [Act.put, List.setIfInBounds_toArray, List.set_cons_zero, List.set_cons_succ]
  refine takeY 14 (i := 1) (v := ?vx2) rfl rfl (by kernel_rfl) (by kernel_rfl) (by kernel_rfl) (fun _ _ _ h => h) (by kernel_rfl) ?yx2 hS0 ?_
  case yx2 =>
    intro w' hw'; (try dsimp only at hw'); obtain ⟨q1, q2⟩ := hw'; go_simp; try with_reducible rfl
  simp only [Act.put, List.setIfInBounds_toArray, List.set_cons_zero, List.set_cons_succ]
  refine takeY 16 (i := 3) (v := ?vx3) rfl rfl (by kernel_rfl) (by kernel_rfl) (by kernel_rfl) (fun _ _ _ h => h) (by kernel_rfl) ?yx3 hS0 ?_
  case yx3 =>
    intro w' hw'; (try dsimp only at hw'); obtain ⟨q1, q2⟩ := hw'; go_simp; try with_reducible rfl
  simp only [Act.put, List.setIfInBounds_toArray, List.set_cons_zero, List.set_cons_succ]
  refine takeY 17 (i := 4) (v := ?vx4) rfl rfl (by kernel_rfl) (by kernel_rfl) (by kernel_rfl) (fun _ _ _ h => h) (by kernel_rfl) ?yx4 hS0 ?_
  case yx4 =>
    intro w' hw'; (try dsimp only at hw'); obtain ⟨q1, q2⟩ := hw'; go_simp; try with_reducible rfl
  simp only [Act.put, List.setIfInBounds_toArray, List.set_cons_zero, List.set_cons_succ]
  refine wpAnyH_ready (rs := [2]) (by kernel_rfl) (by simp) ?_
  refine (AllReadyH.cons rfl (fun K hK => ?_) AllReadyH.nil)
  go_simp
  go_at_call 23
  refine HSo.out.mono ?_
  rintro e w3 ⟨⟨v, s, rfl, hs, ho⟩, hb3⟩
  obtain rfl : s = D := hs.one HSp.out (.refl _)
  refine hK.out _ _ (⟨(hb3.cell (p := ⟨w.heap.size, 1, none⟩) hSz).trans s1, (hb3.cell (p := ⟨w.heap.size, 2, none⟩) hSz).trans s2⟩) (fun hS1 => ?_)
  clear hK K
  try simp only [Act.put, List.setIfInBounds_toArray, List.set_cons_zero, List.set_cons_succ]
  refine takeY 4 (i := 5) (v := ?vx5) rfl rfl (by kernel_rfl) (by kernel_rfl) (by kernel_rfl) (fun _ _ _ h => h) (by kernel_rfl) ?yx5 hS1 ?_
  case yx5 =>
    intro w' hw'; (try dsimp only at hw'); obtain ⟨q1, q2⟩ := hw'; go_simp; try with_reducible rfl
  simp only [Act.put, List.setIfInBounds_toArray, List.set_cons_zero, List.set_cons_succ]
  refine takeY 5 (i := 6) (v := ?vx6) rfl rfl (by kernel_rfl) (by kernel_rfl) (by kernel_rfl) (fun _ _ _ h => h) (by kernel_rfl) ?yx6 hS1 ?_
  case yx6 =>
    intro w' hw'; (try dsimp only at hw'); obtain ⟨q1, q2⟩ := hw'; go_simp; try with_reducible rfl
  simp only [Act.put, List.setIfInBounds_toArray, List.set_cons_zero, List.set_cons_succ]
  refine wpAnyH_done (by kernel_rfl) ?_ _
  have HO3 : Hid (OwnI w3 w.heap.size v s) := Lib.hid (ownI_lower ho (Nat.le_of_lt hSz))
  have HB3 : Hid (Below w.heap.size w w3) := Lib.hid (HB2.out.trans (((Below.refl _ w2).drew.trans hb3).mono (Nat.le_of_lt hSz)))
  clear ho hs hb3 hS0 hS1 s1 s2
  go_wp2
  go_ret2
  exact ⟨⟨_, rfl, HO3.out⟩, HB3.out⟩
end Go.Proofs.YtnbgmiiknndleaaGreat.num
