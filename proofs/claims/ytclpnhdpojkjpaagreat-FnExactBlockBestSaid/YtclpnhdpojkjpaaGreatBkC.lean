/- Contracts of functions that the laws of this chapter call, packed. -/
import Derived.Test.YtclpnhdpojkjpaaGreatBkB
import Derived.Test.YtclpnhdpojkjpaaGreatProg
import Derived.WalkKit
import Derived.ProofKit
import Derived.Outline
import Derived.Conc.Holds
import Derived.Handed
import Derived.Test.YtclpnhdpojkjpaaGreatRows
namespace Go.Proofs.YtclpnhdpojkjpaaGreat.num
set_option maxRecDepth 20000
open Go.RowKit
set_option linter.unusedVariables false
set_option linter.unusedSimpArgs false

theorem Pass3.nil3 (w : World) : Pass3 w.heap.size (((w.alloc (.cells #[] 77)).alloc (.cells #[] 4)).alloc (.cells #[] 77)) (.slice (some ⟨w.heap.size, 0, none⟩) 0 0) [] (.slice (some ⟨w.heap.size + 1, 0, none⟩) 0 0) [] (.slice (some ⟨w.heap.size + 1 + 1, 0, none⟩) 0 0) [] := by
  have b1 : Below w.heap.size w (w.alloc (.cells #[] 77)) := (Below.refl _ w).alloc (Nat.le_refl _) _
  have e1 : (w.alloc (.cells #[] 77)).heap.size = w.heap.size + 1 := by simp
  have b2 : Below (w.alloc (.cells #[] 77)).heap.size (w.alloc (.cells #[] 77)) ((w.alloc (.cells #[] 77)).alloc (.cells #[] 4)) := (Below.refl _ _).alloc (Nat.le_refl _) _
  have e2 : ((w.alloc (.cells #[] 77)).alloc (.cells #[] 4)).heap.size = w.heap.size + 1 + 1 := by simp
  have b3 : Below ((w.alloc (.cells #[] 77)).alloc (.cells #[] 4)).heap.size ((w.alloc (.cells #[] 77)).alloc (.cells #[] 4)) (((w.alloc (.cells #[] 77)).alloc (.cells #[] 4)).alloc (.cells #[] 77)) := (Below.refl _ _).alloc (Nat.le_refl _) _
  have k1 : OwnTs _ w.heap.size _ [] := ((OwnG.empty (T := 77) (f := itCs) (s := 2) w w.heap.size (Nat.le_refl _)).below b2).below b3
  have k2 : OwnBs _ w.heap.size _ [] := (OwnG.empty (T := 4) (f := boC) (s := 1) (w.alloc (.cells #[] 77)) w.heap.size (by rw [e1]; omega)).below b3
  have k3 : OwnTs _ w.heap.size _ [] := OwnG.empty (T := 77) (f := itCs) (s := 2) ((w.alloc (.cells #[] 77)).alloc (.cells #[] 4)) w.heap.size (by rw [e2]; omega)
  rw [e1] at k2
  rw [e2] at k3
  have ne : ∀ {a b : Nat}, a ≠ b → Apart (.slice (some ⟨a, 0, none⟩) 0 0) (.slice (some ⟨b, 0, none⟩) 0 0) := fun {a b} h k h1 h2 => h ((Option.some.inj h1).trans (Option.some.inj h2).symm)
  exact ⟨k1, k2, k3, ne (by omega), ne (by omega), ne (by omega)⟩
/-- What a pass finds and what it leaves: two slices that grow, beside the window's two. -/
structure Pass4 (F : Nat) (w : World) (d : Value) (ld : List It) (r : Value) (lr : List It) (a : Value) (la : List It) (b : Value) (lb : List Bool) : Prop where
  fd : OwnTs w F d ld
  fr : OwnTs w F r lr
  fa : OwnTs w F a la
  fb : OwnBs w F b lb
  dr : Apart d r
  da : Apart d a
  db : Apart d b
  ra : Apart r a
  rb : Apart r b
section
variable {F : Nat} {w w' : World} {d r a b d' r' : Value} {ld lr la : List It} {lb : List Bool}
theorem Pass4.growD {x : It} (h : Pass4 F w d ld r lr a la b lb) (hr : OwnTs w' F d' (ld ++ [x])) (hg : w.grownBy w' d.ownBlock) (hat : d'.ownBlock = d.ownBlock ∨ d'.ownBlock = some (w.heap.size + 1)) : Pass4 F w' d' (ld ++ [x]) r lr a la b lb :=
  ⟨hr, h.fr.apart h.dr.symm hg, h.fa.apart h.da.symm hg, h.fb.apart h.db.symm hg, (h.dr.symm.grow h.fr.tops hat).symm, (h.da.symm.grow h.fa.tops hat).symm, (h.db.symm.grow h.fb.tops hat).symm, h.ra, h.rb⟩
theorem Pass4.growR {x : It} (h : Pass4 F w d ld r lr a la b lb) (hr : OwnTs w' F r' (lr ++ [x])) (hg : w.grownBy w' r.ownBlock) (hat : r'.ownBlock = r.ownBlock ∨ r'.ownBlock = some (w.heap.size + 1)) : Pass4 F w' d ld r' (lr ++ [x]) a la b lb :=
  ⟨h.fd.apart h.dr hg, hr, h.fa.apart h.ra.symm hg, h.fb.apart h.rb.symm hg, h.dr.grow h.fd.tops hat, h.da, h.db, (h.ra.symm.grow h.fa.tops hat).symm, (h.rb.symm.grow h.fb.tops hat).symm⟩
theorem Pass4.start (h : Pass3 F w a la b lb r lr) (hF : F ≤ w.heap.size) : Pass4 F (w.alloc (.cells #[] 77)) (.slice (some ⟨w.heap.size, 0, none⟩) 0 0) [] r lr a la b lb := by
  have b1 : Below w.heap.size w (w.alloc (.cells #[] 77)) := (Below.refl _ w).alloc (Nat.le_refl _) _
  have h1 := h.below b1
  have ap : ∀ {u : Value}, (∀ k, u.ownBlock = some k → k < w.heap.size) → Apart (.slice (some ⟨w.heap.size, 0, none⟩) 0 0) u := fun {u} hu b q1 q2 => by
    have e1 := hu b q2
    have e2 : w.heap.size = b := Option.some.inj q1
    omega
  exact ⟨OwnG.empty (T := 77) (f := itCs) (s := 2) w F hF, h1.fr, h1.fa, h1.fb, ap h.fr.tops, ap h.fa.tops, ap h.fb.tops, h.ar.symm, h.br.symm⟩
end
def dnI (l : List (It × Bool)) : List It := (l.filter (·.2)).map (·.1)
def lfI (l : List (It × Bool)) : List It := (l.filter (!·.2)).map (·.1)
theorem dn_snoc {l : List (It × Bool)} {k : Nat} {p : It × Bool} (h : l[k]? = some p) : dnI (l.take (k + 1)) = dnI (l.take k) ++ (if p.2 then [p.1] else []) := by
  unfold dnI
  rw [take_at h, List.filter_append, List.map_append]
  congr 1
  cases e : p.2 <;> simp [e]
theorem lf_snoc {l : List (It × Bool)} {k : Nat} {p : It × Bool} (h : l[k]? = some p) : lfI (l.take (k + 1)) = lfI (l.take k) ++ (if p.2 then [] else [p.1]) := by
  unfold lfI
  rw [take_at h, List.filter_append, List.map_append]
  congr 1
  cases e : p.2 <;> simp [e]
theorem dn_done (win : List (It × Bool)) (ov : List Dt) : (dnI win).map It.dat = doneOf ⟨winD win, ov⟩ := by
  unfold dnI doneOf winD
  simp only [List.filter_map, List.map_map]
  rfl
theorem lf_left (win : List (It × Bool)) (over : List It) : (over ++ lfI win).map It.dat = leftOf ⟨winD win, over.map It.dat⟩ := by
  unfold lfI leftOf winD
  simp only [List.filter_map, List.map_map, List.map_append]
  rfl
theorem dn_le (l : List (It × Bool)) : (dnI l).length ≤ l.length := by unfold dnI; rw [List.length_map]; exact List.length_filter_le _ _
theorem lf_le (l : List (It × Bool)) : (lfI l).length ≤ l.length := by unfold lfI; rw [List.length_map]; exact List.length_filter_le _ _
theorem kp_mem {t : Tr} {x : It} {l : List (It × Bool)} {P : It → Prop} (h : ∀ p ∈ l, P p.1) : ∀ p ∈ kpI t x l, P p.1 := fun p hp => h p (List.mem_filter.1 hp).1
set_option maxRecDepth 20000 in
set_option maxHeartbeats 6400000 in
theorem sPass (w : World) (B : Nat) (A : Option Addr) (n c : Nat) (its : List It) (A2 : Option Addr) (n2 c2 : Nat) (ns : List Nd) (h : InB w B A n its A2 n2 c2 ns) (he : IsE (datN ns)) (ha : AreP (its.map It.dat)) (t : Tr) (ht : Post (datN ns) t) (Al : Option Addr) (nl cl : Nat) (xs : List It) (hx : ReadG itCs 2 w w.heap.size Al nl xs) (hm : ∀ x ∈ xs, x ∈ its) (hnl : nl ≤ 1048575) (N : Nat) (hN0 : 0 < N) (hN : N ≤ 1048576) :
    Calls Tryz.prog 41 #[.slice Al nl cl, .slice A2 n2 c2, .int .i64 (N : Int)] w fun e w' => (∃ v1 v2 dn ov, e = .returned (.tuple #[v1, v2]) ∧ OwnTs w' w.heap.size v1 dn ∧ OwnTs w' w.heap.size v2 ov ∧ dn.map It.dat = doneOf (runP t N (xs.map It.dat)) ∧ ov.map It.dat = leftOf (runP t N (xs.map It.dat)) ∧ (∀ x ∈ dn, x ∈ xs) ∧ ∀ x ∈ ov, x ∈ xs) ∧ Below w.heap.size w w' := by
  have HC : Hid (∀ W, Below w.heap.size w W → ∀ x y, x ∈ its → y ∈ its → Calls Tryz.prog 75 #[.slice A2 n2 c2, .agg #[.int .i64 x.id, .slice x.A x.n x.c], .agg #[.int .i64 y.id, .slice y.A y.n y.c]] W fun e w' => e = .returned (.int .i64 (cmpD t x.dat y.dat)) ∧ Below W.heap.size W w') := Lib.hid fun W hW x y hx hy => sCmpIn w B A n c its A2 n2 c2 ns h he ha t ht W hW x y hx hy
  have HT := Lib.hid ht
  have HX := Lib.hid hx
  have HM := Lib.hid hm
  have hlx := hx.len
  clear h he ha ht hx hm
  go_enter Tryz.func41, Tryz.ntmps41
  go_wp2
  go_loopw [8, 9, 10, 11] (fun a b c' i wr => ∃ (k : Nat) (win : List (It × Bool)) (over : List It), k ≤ nl ∧ i = .int .i64 k ∧ Pass3 w.heap.size wr a (win.map (·.1)) b (win.map (·.2)) c' over ∧ runP t N ((xs.take k).map It.dat) = ⟨winD win, over.map It.dat⟩ ∧ (∀ p ∈ win, p.1 ∈ xs) ∧ (∀ y ∈ over, y ∈ xs) ∧ Below w.heap.size w wr) (fun _ _ _ i _ => nl - (intOf i).toNat)
  case atStart => exact ⟨0, [], [], Nat.zero_le _, rfl, Pass3.nil3 w, rfl, by simp, by simp, (((Below.refl _ w).alloc (Nat.le_refl _) _).alloc (by simp) _).alloc (by simp <;> omega) _⟩
  case round =>
    obtain ⟨k, win, over, hk, rfl, hp, hrun, hmw, hmo, hbel⟩ := hrel
    have HRun := Lib.hid hrun
    have HMw := Lib.hid hmw
    have HMo := Lib.hid hmo
    have HB := Lib.hid hbel
    have HLw : Hid (win.length ≤ 1048575 ∧ over.length ≤ 1048575 ∧ win.length + over.length ≤ 1048575) := Lib.hid (by
      have h1 := (run_inv t N hN0 ((xs.take k).map It.dat)).1
      rw [hrun] at h1
      unfold winD at h1
      simp only [List.length_map, List.length_take] at h1
      omega)
    have e8 := hp.fa.shape
    rw [List.length_map] at e8
    obtain ⟨A8, c8, rfl, -, -⟩ := e8
    have e9 := hp.fb.shape
    rw [List.length_map] at e9
    obtain ⟨A9, c9, rfl, -, -⟩ := e9
    obtain ⟨A10, c10, rfl, -, -⟩ := hp.fr.shape
    have HP := Lib.hid hp
    have HP0 := Lib.hid (hp.five hbel.size)
    have HB0 : Hid (Below w.heap.size w ((wr.alloc (.cells #[] 77)).alloc (.cells #[] 4))) := Lib.hid ((hbel.alloc hbel.size _).alloc (by simp; have := hbel.size; omega) _)
    clear hp hrun hmw hmo
    by_cases hlt : k < nl
    · obtain ⟨b1, off, x, rfl, hb1, hat, d0, d1⟩ := it_at HX.out hlt
      have HAt := Lib.hid hat
      have HD := Lib.hid (And.intro d0 d1)
      have HMx := Lib.hid (HM.out x (mem_of_at hat))
      have hlt' : (k : Int) < (nl : Int) := by omega
      have hk0 : (0 : Int) ≤ (k : Int) := by omega
      clear d0 d1 hat hbel
      go_wp2
      go_loopw [12, 13, 14, 15] (fun a b f j wr => ∃ m : Nat, m ≤ win.length ∧ j = .int .i64 m ∧ f = .bool (fnI t x (win.take m)) ∧ PassI w.heap.size wr a ((kpI t x (win.take m)).map (·.1)) b ((kpI t x (win.take m)).map (·.2)) (.slice A8 win.length c8) (win.map (·.1)) (.slice A9 win.length c9) (win.map (·.2)) (.slice A10 over.length c10) over ∧ Below w.heap.size w wr) (fun _ _ _ j _ => win.length - (intOf j).toNat)
      case atStart => exact ⟨0, Nat.zero_le _, rfl, rfl, HP0.out, HB0.out⟩
      case round =>
        clear HP0 HB0
        obtain ⟨m, hm, rfl, rfl, hpi, hbi⟩ := hrel
        have HPi := Lib.hid hpi
        have HBi := Lib.hid hbi
        obtain ⟨bb, hbb⟩ : ∃ bb, fnI t x (win.take m) = bb := ⟨_, rfl⟩
        rw [hbb]
        have HFb := Lib.hid hbb
        clear hpi hbb
        by_cases hmt : m < win.length
        · obtain ⟨b2, off2, y, hA8, hb2, hat, d0, d1⟩ := it_at (HPi.out.fp.read itCs_len) hmt
          subst hA8
          obtain ⟨⟨y', ff⟩, hw⟩ : ∃ p, win[m]? = some p := ⟨_, List.getElem?_eq_getElem hmt⟩
          obtain rfl : y' = y := by rw [List.getElem?_map, hw] at hat; exact Option.some.inj hat
          have HW := Lib.hid hw
          have HWs : Hid ((win.map (·.2))[m]? = some ff) := Lib.hid (by rw [List.getElem?_map, hw]; rfl)
          have HMy := Lib.hid (HM.out _ (HMw.out _ (mem_of_at hw)))
          have hmt' : (m : Int) < (win.length : Int) := by omega
          have hm0 : (0 : Int) ≤ (m : Int) := by omega
          have hm9 : m ≤ 1048575 := by have := HLw.out.1; omega
          have HLk : Hid (((kpI t x (win.take m)).map (·.1)).length ≤ 1048576 ∧ ((kpI t x (win.take m)).map (·.2)).length ≤ 1048576) := Lib.hid (by
            have h1 := kp_len t x win m
            have h2 := HLw.out.1
            rw [List.length_map, List.length_map]
            omega)
          have HS : Hid (∀ w', Below wr.heap.size wr w' → w'.cell? ⟨b2, off2 + m * 2, none⟩ = some (.int .i64 y'.id) ∧ w'.cell? ⟨b2, off2 + m * 2 + 1, none⟩ = some (.slice y'.A y'.n y'.c) ∧ w'.cell? ⟨b1, off + k * 2, none⟩ = some (.int .i64 x.id) ∧ w'.cell? ⟨b1, off + k * 2 + 1, none⟩ = some (.slice x.A x.n x.c)) := Lib.hid fun W h => ⟨(h.cell (p := ⟨b2, off2 + m * 2, none⟩) hb2).trans d0, (h.cell (p := ⟨b2, off2 + m * 2 + 1, none⟩) hb2).trans d1, (h.cell (p := ⟨b1, off + k * 2, none⟩) (Nat.lt_of_lt_of_le hb1 HBi.out.size)).trans ((HBi.out.cell (p := ⟨b1, off + k * 2, none⟩) hb1).trans HD.out.1), (h.cell (p := ⟨b1, off + k * 2 + 1, none⟩) (Nat.lt_of_lt_of_le hb1 HBi.out.size)).trans ((HBi.out.cell (p := ⟨b1, off + k * 2 + 1, none⟩) hb1).trans HD.out.2)⟩
          clear d0 d1 hat hw hbi
          go_wp2
          have hS0 : (fun w' => w'.cell? ⟨b2, off2 + m * 2, none⟩ = some (.int .i64 y'.id) ∧ w'.cell? ⟨b2, off2 + m * 2 + 1, none⟩ = some (.slice y'.A y'.n y'.c) ∧ w'.cell? ⟨b1, off + k * 2, none⟩ = some (.int .i64 x.id) ∧ w'.cell? ⟨b1, off + k * 2 + 1, none⟩ = some (.slice x.A x.n x.c)) (World.drew wr) := HS.out _ ((Below.refl _ _).drew)
          refine wp_region_held (S := fun w' => w'.cell? ⟨b2, off2 + m * 2, none⟩ = some (.int .i64 y'.id) ∧ w'.cell? ⟨b2, off2 + m * 2 + 1, none⟩ = some (.slice y'.A y'.n y'.c) ∧ w'.cell? ⟨b1, off + k * 2, none⟩ = some (.int .i64 x.id) ∧ w'.cell? ⟨b1, off + k * 2 + 1, none⟩ = some (.slice x.A x.n x.c)) (by kernel_rfl) ?_
          change wpAnyH _ _ _ _ _ _ _ _ (World.drew _)
          refine takeY 36 (i := 0) (v := ?v0a) rfl rfl (by kernel_rfl) (by kernel_rfl) (by kernel_rfl) (fun _ _ _ h => h) (by kernel_rfl) ?y0a hS0 ?_
          case y0a =>
            intro w' hw'; (try dsimp only at hw'); obtain ⟨y_0, y_1, x_0, x_1⟩ := hw'; go_simp; try with_reducible rfl
          simp only [Act.put, List.setIfInBounds_toArray, List.set_cons_zero, List.set_cons_succ]
          refine takeY 37 (i := 1) (v := ?v1a) rfl rfl (by kernel_rfl) (by kernel_rfl) (by kernel_rfl) (fun _ _ _ h => h) (by kernel_rfl) ?y1a hS0 ?_
          case y1a =>
            intro w' hw'; (try dsimp only at hw'); obtain ⟨y_0, y_1, x_0, x_1⟩ := hw'; go_simp; try with_reducible rfl
          simp only [Act.put, List.setIfInBounds_toArray, List.set_cons_zero, List.set_cons_succ]
          refine takeY 38 (i := 2) (v := ?v2a) rfl rfl (by kernel_rfl) (by kernel_rfl) (by kernel_rfl) (fun _ _ _ h => h) (by kernel_rfl) ?y2a hS0 ?_
          case y2a =>
            intro w' hw'; (try dsimp only at hw'); obtain ⟨y_0, y_1, x_0, x_1⟩ := hw'; go_simp; try with_reducible rfl
          simp only [Act.put, List.setIfInBounds_toArray, List.set_cons_zero, List.set_cons_succ]
          refine takeY 39 (i := 3) (v := ?v3a) rfl rfl (by kernel_rfl) (by kernel_rfl) (by kernel_rfl) (fun _ _ _ h => h) (by kernel_rfl) ?y3a hS0 ?_
          case y3a =>
            intro w' hw'; (try dsimp only at hw'); obtain ⟨y_0, y_1, x_0, x_1⟩ := hw'; go_simp; try with_reducible rfl
          simp only [Act.put, List.setIfInBounds_toArray, List.set_cons_zero, List.set_cons_succ]
          refine takeY 40 (i := 4) (v := ?v4a) rfl rfl (by kernel_rfl) (by kernel_rfl) (by kernel_rfl) (fun _ _ _ h => h) (by kernel_rfl) ?y4a hS0 ?_
          case y4a =>
            intro w' hw'; (try dsimp only at hw'); obtain ⟨y_0, y_1, x_0, x_1⟩ := hw'; go_simp; try with_reducible rfl
          simp only [Act.put, List.setIfInBounds_toArray, List.set_cons_zero, List.set_cons_succ]
          refine takeY 41 (i := 5) (v := ?v5a) rfl rfl (by kernel_rfl) (by kernel_rfl) (by kernel_rfl) (fun _ _ _ h => h) (by kernel_rfl) ?y5a hS0 ?_
          case y5a =>
            intro w' hw'; (try dsimp only at hw'); obtain ⟨y_0, y_1, x_0, x_1⟩ := hw'; go_simp; try with_reducible rfl
          simp only [Act.put, List.setIfInBounds_toArray, List.set_cons_zero, List.set_cons_succ]
          refine takeY 42 (i := 6) (v := ?v6a) rfl rfl (by kernel_rfl) (by kernel_rfl) (by kernel_rfl) (fun _ _ _ h => h) (by kernel_rfl) ?y6a hS0 ?_
          case y6a =>
            intro w' hw'; (try dsimp only at hw'); obtain ⟨y_0, y_1, x_0, x_1⟩ := hw'; go_simp; try with_reducible rfl
          simp only [Act.put, List.setIfInBounds_toArray, List.set_cons_zero, List.set_cons_succ]
          refine takeY 43 (i := 7) (v := ?v7a) rfl rfl (by kernel_rfl) (by kernel_rfl) (by kernel_rfl) (fun _ _ _ h => h) (by kernel_rfl) ?y7a hS0 ?_
          case y7a =>
            intro w' hw'; (try dsimp only at hw'); obtain ⟨y_0, y_1, x_0, x_1⟩ := hw'; go_simp; try with_reducible rfl
          simp only [Act.put, List.setIfInBounds_toArray, List.set_cons_zero, List.set_cons_succ]
          refine takeY 44 (i := 8) (v := ?v8a) rfl rfl (by kernel_rfl) (by kernel_rfl) (by kernel_rfl) (fun _ _ _ h => h) (by kernel_rfl) ?y8a hS0 ?_
          case y8a =>
            intro w' hw'; (try dsimp only at hw'); obtain ⟨y_0, y_1, x_0, x_1⟩ := hw'; go_simp; try with_reducible rfl
          simp only [Act.put, List.setIfInBounds_toArray, List.set_cons_zero, List.set_cons_succ]
          refine wpAnyH_ready (rs := [9]) (by kernel_rfl) (by simp) ?_
          refine AllReadyH.cons rfl (fun K hK => ?_) AllReadyH.nil
          go_simp; go_at_call 75; refine (HC.out _ HBi.out.drew y' x HMy.out HMx.out).mono ?_; rintro e w3 ⟨rfl, hb3⟩; have HBx := Lib.hid (below_on ((Below.refl wr.heap.size wr).drew) hb3); have HB3 := Lib.hid (below_on HBi.out.drew hb3); clear hb3
          refine hK.out _ _ (HS.out _ HBx.out) (fun hS1 => ?_)
          clear hK K
          try simp only [Act.put, List.setIfInBounds_toArray, List.set_cons_zero, List.set_cons_succ]
          refine takeY 16 (i := 10) (v := ?v10a) rfl rfl (by kernel_rfl) (by kernel_rfl) (by kernel_rfl) (fun _ _ _ h => h) (by kernel_rfl) ?y10a hS1 ?_
          case y10a =>
            intro w' hw'; (try dsimp only at hw'); obtain ⟨y_0, y_1, x_0, x_1⟩ := hw'; go_simp; try with_reducible rfl
          simp only [Act.put, List.setIfInBounds_toArray, List.set_cons_zero, List.set_cons_succ]
          refine wpAnyH_done (by kernel_rfl) ?_ _
          clear hS0 hS1
          have HP3 := Lib.hid (HPi.out.below HBx.out)
          obtain ⟨s0, s1, -, -⟩ := HS.out _ HBx.out
          obtain ⟨z, hz⟩ : ∃ z, cmpD t y'.dat x.dat = z := ⟨_, rfl⟩
          rw [hz]
          clear HS HBx
          cases bb
          · by_cases z1 : z = 1
            · subst z1
              have HZ1 : Hid (btD t y'.dat x.dat = true) := Lib.hid (by unfold btD; rw [hz]; rfl)
              have HZ2 : Hid (btD t x.dat y'.dat = false) := Lib.hid (by rw [bt_rev HT.out, hz]; rfl)
              clear hz
              go_wp2_with (at_builtin; refine wp_appT w3 (by rfl) (.tmp 53) (.tmp 58) (by rfl) w.heap.size _ _ (by rfl) HP3.out.fa y' _ (by rfl) 1 (by rfl) HLk.out.1 HB3.out.size ?_)
              intro v5 w5 ha5 hg5 hat5 hb5
              have HP5 := Lib.hid (HP3.out.growA ha5 hg5 hat5)
              have HB5 := Lib.hid (HB3.out.trans hb5)
              obtain ⟨b3, off3, fl, hA9, -, hat3, g0⟩ := bo_at (HP5.out.fq.read boC_len) hmt
              obtain rfl : fl = ff := Option.some.inj (hat3.symm.trans HWs.out)
              cases hA9
              clear ha5 hg5 hat5 hb5 hat3 s0 s1
              go_wp2_with (at_builtin; refine wp_appB w5 (by rfl) (.tmp 60) (.tmp 65) (by rfl) w.heap.size _ _ (by rfl) HP5.out.fb fl _ (by rfl) 1 (by rfl) HLk.out.2 HB5.out.size ?_)
              intro v6 w6 ha6 hg6 hat6 hb6
              have HP6 := Lib.hid (HP5.out.growB ha6 hg6 hat6)
              have HB6 := Lib.hid (HB5.out.trans hb6)
              clear ha6 hg6 hat6 hb6 g0
              go_wp2
              go_roundw
              case rel => exact ⟨m + 1, by omega, by go_num, by rw [fn_snoc HW.out, HFb.out, HZ1.out]; rfl, by rw [kp_snoc HW.out, HZ2.out]; simpa using HP6.out, HB6.out⟩
              case measure => simp [intOf] <;> omega
            by_cases z2 : z = -1
            · subst z2
              have HZ1 : Hid (btD t y'.dat x.dat = false) := Lib.hid (by unfold btD; rw [hz]; rfl)
              have HZ2 : Hid (btD t x.dat y'.dat = true) := Lib.hid (by rw [bt_rev HT.out, hz]; rfl)
              clear hz z1
              go_wp2
              go_roundw
              case rel => exact ⟨m + 1, by omega, by go_num, by rw [fn_snoc HW.out, HFb.out, HZ1.out]; rfl, by rw [kp_snoc HW.out, HZ2.out]; simpa using HP3.out, HB3.out⟩
              case measure => simp [intOf] <;> omega
            have e1 : (z != 1) = true := by simpa using z1
            have e2 : (z != -1) = true := by simpa using z2
            have HZ1 : Hid (btD t y'.dat x.dat = false) := Lib.hid (by unfold btD; rw [hz]; simpa using z1)
            have HZ2 : Hid (btD t x.dat y'.dat = false) := Lib.hid (by rw [bt_rev HT.out, hz]; simpa using z2)
            clear hz z1 z2
            go_wp2_with (at_builtin; refine wp_appT w3 (by rfl) (.tmp 53) (.tmp 58) (by rfl) w.heap.size _ _ (by rfl) HP3.out.fa y' _ (by rfl) 1 (by rfl) HLk.out.1 HB3.out.size ?_)
            intro v5 w5 ha5 hg5 hat5 hb5
            have HP5 := Lib.hid (HP3.out.growA ha5 hg5 hat5)
            have HB5 := Lib.hid (HB3.out.trans hb5)
            obtain ⟨b3, off3, fl, hA9, -, hat3, g0⟩ := bo_at (HP5.out.fq.read boC_len) hmt
            obtain rfl : fl = ff := Option.some.inj (hat3.symm.trans HWs.out)
            cases hA9
            clear ha5 hg5 hat5 hb5 hat3 s0 s1
            go_wp2_with (at_builtin; refine wp_appB w5 (by rfl) (.tmp 60) (.tmp 65) (by rfl) w.heap.size _ _ (by rfl) HP5.out.fb fl _ (by rfl) 1 (by rfl) HLk.out.2 HB5.out.size ?_)
            intro v6 w6 ha6 hg6 hat6 hb6
            have HP6 := Lib.hid (HP5.out.growB ha6 hg6 hat6)
            have HB6 := Lib.hid (HB5.out.trans hb6)
            clear ha6 hg6 hat6 hb6 g0
            go_wp2
            go_roundw
            case rel => exact ⟨m + 1, by omega, by go_num, by rw [fn_snoc HW.out, HFb.out, HZ1.out]; rfl, by rw [kp_snoc HW.out, HZ2.out]; simpa using HP6.out, HB6.out⟩
            case measure => simp [intOf] <;> omega
          · by_cases z1 : z = 1
            · subst z1
              have HZ1 : Hid (btD t y'.dat x.dat = true) := Lib.hid (by unfold btD; rw [hz]; rfl)
              have HZ2 : Hid (btD t x.dat y'.dat = false) := Lib.hid (by rw [bt_rev HT.out, hz]; rfl)
              clear hz
              go_wp2_with (at_builtin; refine wp_appT w3 (by rfl) (.tmp 53) (.tmp 58) (by rfl) w.heap.size _ _ (by rfl) HP3.out.fa y' _ (by rfl) 1 (by rfl) HLk.out.1 HB3.out.size ?_)
              intro v5 w5 ha5 hg5 hat5 hb5
              have HP5 := Lib.hid (HP3.out.growA ha5 hg5 hat5)
              have HB5 := Lib.hid (HB3.out.trans hb5)
              obtain ⟨b3, off3, fl, hA9, -, hat3, g0⟩ := bo_at (HP5.out.fq.read boC_len) hmt
              obtain rfl : fl = ff := Option.some.inj (hat3.symm.trans HWs.out)
              cases hA9
              clear ha5 hg5 hat5 hb5 hat3 s0 s1
              go_wp2_with (at_builtin; refine wp_appB w5 (by rfl) (.tmp 60) (.tmp 65) (by rfl) w.heap.size _ _ (by rfl) HP5.out.fb fl _ (by rfl) 1 (by rfl) HLk.out.2 HB5.out.size ?_)
              intro v6 w6 ha6 hg6 hat6 hb6
              have HP6 := Lib.hid (HP5.out.growB ha6 hg6 hat6)
              have HB6 := Lib.hid (HB5.out.trans hb6)
              clear ha6 hg6 hat6 hb6 g0
              go_wp2
              go_roundw
              case rel => exact ⟨m + 1, by omega, by go_num, by rw [fn_snoc HW.out, HFb.out, HZ1.out]; rfl, by rw [kp_snoc HW.out, HZ2.out]; simpa using HP6.out, HB6.out⟩
              case measure => simp [intOf] <;> omega
            by_cases z2 : z = -1
            · subst z2
              have HZ1 : Hid (btD t y'.dat x.dat = false) := Lib.hid (by unfold btD; rw [hz]; rfl)
              have HZ2 : Hid (btD t x.dat y'.dat = true) := Lib.hid (by rw [bt_rev HT.out, hz]; rfl)
              clear hz z1
              go_wp2
              go_roundw
              case rel => exact ⟨m + 1, by omega, by go_num, by rw [fn_snoc HW.out, HFb.out, HZ1.out]; rfl, by rw [kp_snoc HW.out, HZ2.out]; simpa using HP3.out, HB3.out⟩
              case measure => simp [intOf] <;> omega
            have e1 : (z != 1) = true := by simpa using z1
            have e2 : (z != -1) = true := by simpa using z2
            have HZ1 : Hid (btD t y'.dat x.dat = false) := Lib.hid (by unfold btD; rw [hz]; simpa using z1)
            have HZ2 : Hid (btD t x.dat y'.dat = false) := Lib.hid (by rw [bt_rev HT.out, hz]; simpa using z2)
            clear hz z1 z2
            go_wp2_with (at_builtin; refine wp_appT w3 (by rfl) (.tmp 53) (.tmp 58) (by rfl) w.heap.size _ _ (by rfl) HP3.out.fa y' _ (by rfl) 1 (by rfl) HLk.out.1 HB3.out.size ?_)
            intro v5 w5 ha5 hg5 hat5 hb5
            have HP5 := Lib.hid (HP3.out.growA ha5 hg5 hat5)
            have HB5 := Lib.hid (HB3.out.trans hb5)
            obtain ⟨b3, off3, fl, hA9, -, hat3, g0⟩ := bo_at (HP5.out.fq.read boC_len) hmt
            obtain rfl : fl = ff := Option.some.inj (hat3.symm.trans HWs.out)
            cases hA9
            clear ha5 hg5 hat5 hb5 hat3 s0 s1
            go_wp2_with (at_builtin; refine wp_appB w5 (by rfl) (.tmp 60) (.tmp 65) (by rfl) w.heap.size _ _ (by rfl) HP5.out.fb fl _ (by rfl) 1 (by rfl) HLk.out.2 HB5.out.size ?_)
            intro v6 w6 ha6 hg6 hat6 hb6
            have HP6 := Lib.hid (HP5.out.growB ha6 hg6 hat6)
            have HB6 := Lib.hid (HB5.out.trans hb6)
            clear ha6 hg6 hat6 hb6 g0
            go_wp2
            go_roundw
            case rel => exact ⟨m + 1, by omega, by go_num, by rw [fn_snoc HW.out, HFb.out, HZ1.out]; rfl, by rw [kp_snoc HW.out, HZ2.out]; simpa using HP6.out, HB6.out⟩
            case measure => simp [intOf] <;> omega
        · obtain rfl : win.length = m := by omega
          have HFb2 : Hid (fnI t x win = bb) := Lib.hid (by have h := HFb.out; rwa [List.take_length] at h)
          have HPl : Hid (PassI w.heap.size wr u12 ((kpI t x win).map (·.1)) u13 ((kpI t x win).map (·.2)) (.slice A8 win.length c8) (win.map (·.1)) (.slice A9 win.length c9) (win.map (·.2)) (.slice A10 over.length c10) over) := Lib.hid (by have h := HPi.out; rwa [List.take_length] at h)
          have HQ0 : Hid (Pass3 w.heap.size wr (.slice A8 win.length c8) (win.map (·.1)) (.slice A9 win.length c9) (win.map (·.2)) (.slice A10 over.length c10) over) := Lib.hid ⟨HPl.out.fp, HPl.out.fq, HPl.out.fr, HP.out.ab, HP.out.ar, HP.out.br⟩
          have HQ : Hid (Pass3 w.heap.size wr u12 ((kpI t x win).map (·.1)) u13 ((kpI t x win).map (·.2)) (.slice A10 over.length c10) over) := Lib.hid ⟨HPl.out.fa, HPl.out.fb, HPl.out.fr, HPl.out.ab, HPl.out.ar, HPl.out.br⟩
          clear HPi HFb hbi HP
          cases bb
          · go_wp2
            go_roundw
            case rel => exact ⟨k + 1, win, over, by omega, by go_num, HQ0.out, by rw [win_step HRun.out HAt.out, HFb2.out]; rfl, HMw.out, HMo.out, HBi.out⟩
            case measure => simp [intOf] <;> omega
          · have HMk : Hid (∀ b : Bool, ∀ p ∈ kpI t x win ++ [(x, b)], p.1 ∈ xs) := Lib.hid fun b p hp => by
              rcases List.mem_append.1 hp with hp | hp
              · exact kp_mem (P := fun u => u ∈ xs) HMw.out p hp
              · rw [List.mem_singleton.1 hp]; exact mem_of_at HAt.out
            obtain ⟨z, hzl⟩ : ∃ z, (kpI t x win).length = z := ⟨_, rfl⟩
            have HZl := Lib.hid hzl
            have HLz : Hid (((kpI t x win).map (·.1)).length ≤ 1048576 ∧ ((kpI t x win).map (·.2)).length ≤ 1048576 ∧ over.length ≤ 1048576) := Lib.hid (by
              have h1 := kp_len t x win win.length
              rw [List.take_length] at h1
              have h2 := HLw.out
              rw [List.length_map, List.length_map]
              omega)
            have e12 := HQ.out.fa.shape
            rw [List.length_map, hzl] at e12
            obtain ⟨A12, c12, rfl, -, -⟩ := e12
            clear hzl HQ0
            have f0 := (HBi.out.cell (p := ⟨b1, off + k * 2, none⟩) hb1).trans HD.out.1
            have f1 := (HBi.out.cell (p := ⟨b1, off + k * 2 + 1, none⟩) hb1).trans HD.out.2
            by_cases hzN : z < N
            · have hzN' : (z : Int) < (N : Int) := by omega
              have HLt := Lib.hid hzN
              by_cases hov : over = []
              · subst hov
                have HOe : Hid (([] : List It).isEmpty = true) := Lib.hid rfl
                go_wp2_with (at_builtin; refine wp_appT wr (by rfl) (.tmp 75) (.tmp 80) (by rfl) w.heap.size _ _ (by rfl) HQ.out.fa x _ (by rfl) 1 (by rfl) HLz.out.1 HBi.out.size ?_)
                intro v5 w5 ha5 hg5 hat5 hb5
                have HP5 := Lib.hid (HQ.out.growA ha5 hg5 hat5)
                have HB5 := Lib.hid (HBi.out.trans hb5)
                clear ha5 hg5 hat5 hb5 f0 f1
                go_wp2_with (at_builtin; refine wp_appB w5 (by rfl) (.tmp 82) (.tmp 86) (by rfl) w.heap.size _ _ (by rfl) HP5.out.fb true _ (by rfl) 1 (by rfl) HLz.out.2.1 HB5.out.size ?_)
                intro v6 w6 ha6 hg6 hat6 hb6
                have HP6 := Lib.hid (HP5.out.growB ha6 hg6 hat6)
                have HB6 := Lib.hid (HB5.out.trans hb6)
                clear ha6 hg6 hat6 hb6
                go_wp2
                go_roundw
                case rel => exact ⟨k + 1, kpI t x win ++ [(x, true)], [], by omega, by go_num, by simpa using HP6.out, by rw [win_step HRun.out HAt.out, HFb2.out, if_pos rfl, if_pos (by rw [HZl.out]; exact HLt.out)]; rw [HOe.out], HMk.out true, HMo.out, HB6.out⟩
                case measure => simp [intOf] <;> omega
              · have HOe : Hid (over.isEmpty = false) := Lib.hid (by cases over with | nil => exact absurd rfl hov | cons => rfl)
                have hol : ((over.length : Int) == 0) = false := by
                  have : 0 < over.length := List.length_pos_iff.2 hov
                  simp; omega
                clear hov
                go_wp2_with (at_builtin; refine wp_appT wr (by rfl) (.tmp 75) (.tmp 80) (by rfl) w.heap.size _ _ (by rfl) HQ.out.fa x _ (by rfl) 1 (by rfl) HLz.out.1 HBi.out.size ?_)
                intro v5 w5 ha5 hg5 hat5 hb5
                have HP5 := Lib.hid (HQ.out.growA ha5 hg5 hat5)
                have HB5 := Lib.hid (HBi.out.trans hb5)
                clear ha5 hg5 hat5 hb5 f0 f1
                go_wp2_with (at_builtin; refine wp_appB w5 (by rfl) (.tmp 82) (.tmp 86) (by rfl) w.heap.size _ _ (by rfl) HP5.out.fb false _ (by rfl) 1 (by rfl) HLz.out.2.1 HB5.out.size ?_)
                intro v6 w6 ha6 hg6 hat6 hb6
                have HP6 := Lib.hid (HP5.out.growB ha6 hg6 hat6)
                have HB6 := Lib.hid (HB5.out.trans hb6)
                clear ha6 hg6 hat6 hb6
                go_wp2
                go_roundw
                case rel => exact ⟨k + 1, kpI t x win ++ [(x, false)], over, by omega, by go_num, by simpa using HP6.out, by rw [win_step HRun.out HAt.out, HFb2.out, if_pos rfl, if_pos (by rw [HZl.out]; exact HLt.out)]; rw [HOe.out], HMk.out false, HMo.out, HB6.out⟩
                case measure => simp [intOf] <;> omega
            · have hzN' : ¬ (z : Int) < (N : Int) := by omega
              have HLt := Lib.hid hzN
              go_wp2_with (at_builtin; refine wp_appT wr (by rfl) (.tmp 88) (.tmp 93) (by rfl) w.heap.size _ _ (by rfl) HQ.out.fr x _ (by rfl) 1 (by rfl) HLz.out.2.2 HBi.out.size ?_)
              intro v5 w5 ha5 hg5 hat5 hb5
              have HP5 := Lib.hid (HQ.out.growR ha5 hg5 hat5)
              have HB5 := Lib.hid (HBi.out.trans hb5)
              clear ha5 hg5 hat5 hb5 f0 f1
              go_wp2
              go_roundw
              case rel => exact ⟨k + 1, kpI t x win, over ++ [x], by omega, by go_num, HP5.out, by rw [win_step HRun.out HAt.out, HFb2.out, if_pos rfl, if_neg (by rw [HZl.out]; exact HLt.out)], kp_mem (P := fun u => u ∈ xs) HMw.out, fun y hy => (List.mem_append.1 hy).elim (HMo.out y) (fun hy => by rw [List.mem_singleton.1 hy]; exact mem_of_at HAt.out), HB5.out⟩
              case measure => simp [intOf] <;> omega
    · obtain rfl : nl = k := by omega
      have HR0 : Hid (runP t N (xs.map It.dat) = ⟨winD win, over.map It.dat⟩) := Lib.hid (by have h := HRun.out; rwa [take_all hlx] at h)
      have HQ4 := Lib.hid (Pass4.start HP.out HB.out.size)
      have HB4 : Hid (Below w.heap.size w (wr.alloc (.cells #[] 77))) := Lib.hid (HB.out.alloc HB.out.size _)
      clear hbel HP0 HB0
      go_wp2
      go_loopw [10, 17, 18] (fun rv dv i wr => ∃ m : Nat, m ≤ win.length ∧ i = .int .i64 m ∧ Pass4 w.heap.size wr dv (dnI (win.take m)) rv (over ++ lfI (win.take m)) (.slice A8 win.length c8) (win.map (·.1)) (.slice A9 win.length c9) (win.map (·.2)) ∧ Below w.heap.size w wr) (fun _ _ i _ => win.length - (intOf i).toNat)
      case atStart => exact ⟨0, Nat.zero_le _, rfl, by simpa [dnI, lfI] using HQ4.out, HB4.out⟩
      case round =>
        obtain ⟨m, hm, rfl, hp4, hb4⟩ := hrel
        have HP4 := Lib.hid hp4
        have HB5 := Lib.hid hb4
        clear hp4 hb4
        by_cases hmt : m < win.length
        · obtain ⟨b2, off2, y, hA8, hb2, hat, d0, d1⟩ := it_at (HP4.out.fa.read itCs_len) hmt
          obtain ⟨b3, off3, fl, hA9, hb3, hat3, g0⟩ := bo_at (HP4.out.fb.read boC_len) hmt
          subst hA8 hA9
          obtain ⟨⟨y', ff⟩, hw⟩ : ∃ p, win[m]? = some p := ⟨_, List.getElem?_eq_getElem hmt⟩
          obtain rfl : y' = y := by rw [List.getElem?_map, hw] at hat; exact Option.some.inj hat
          obtain rfl : ff = fl := by rw [List.getElem?_map, hw] at hat3; exact Option.some.inj hat3
          have HW := Lib.hid hw
          have hmt' : (m : Int) < (win.length : Int) := by omega
          have hm0 : (0 : Int) ≤ (m : Int) := by omega
          have hm9 : m ≤ 1048575 := by have := HLw.out.1; omega
          have HLk : Hid ((dnI (win.take m)).length ≤ 1048576 ∧ (over ++ lfI (win.take m)).length ≤ 1048576) := Lib.hid (by
            have h1 := dn_le (win.take m)
            have h2 := lf_le (win.take m)
            have h3 := HLw.out
            rw [List.length_take] at h1 h2
            rw [List.length_append]
            omega)
          clear hat hat3 hw
          cases ff
          · go_wp2_with (at_builtin; refine wp_appT wr (by rfl) (.tmp 113) (.tmp 118) (by rfl) w.heap.size _ _ (by rfl) HP4.out.fr y' _ (by rfl) 1 (by rfl) HLk.out.2 HB5.out.size ?_)
            intro v5 w5 ha5 hg5 hat5 hb5
            have HP6 := Lib.hid (HP4.out.growR (by rw [List.append_assoc]; exact ha5) hg5 hat5)
            have HB6 := Lib.hid (HB5.out.trans hb5)
            clear ha5 hg5 hat5 hb5 d0 d1 g0
            go_wp2
            go_roundw
            case rel => exact ⟨m + 1, by omega, by go_num, by rw [dn_snoc HW.out, lf_snoc HW.out]; simpa using HP6.out, HB6.out⟩
            case measure => simp [intOf] <;> omega
          · go_wp2_with (at_builtin; refine wp_appT wr (by rfl) (.tmp 106) (.tmp 111) (by rfl) w.heap.size _ _ (by rfl) HP4.out.fd y' _ (by rfl) 1 (by rfl) HLk.out.1 HB5.out.size ?_)
            intro v5 w5 ha5 hg5 hat5 hb5
            have HP6 := Lib.hid (HP4.out.growD ha5 hg5 hat5)
            have HB6 := Lib.hid (HB5.out.trans hb5)
            clear ha5 hg5 hat5 hb5 d0 d1 g0
            go_wp2
            go_roundw
            case rel => exact ⟨m + 1, by omega, by go_num, by rw [dn_snoc HW.out, lf_snoc HW.out]; simpa using HP6.out, HB6.out⟩
            case measure => simp [intOf] <;> omega
        · obtain rfl : win.length = m := by omega
          have HP5 : Hid (Pass4 w.heap.size wr u17 (dnI win) u10 (over ++ lfI win) (.slice A8 win.length c8) (win.map (·.1)) (.slice A9 win.length c9) (win.map (·.2))) := Lib.hid (by have h := HP4.out; rwa [List.take_length] at h)
          go_wp2
          go_ret2
          refine ⟨⟨_, _, dnI win, over ++ lfI win, rfl, HP5.out.fd, HP5.out.fr, by rw [HR0.out, dn_done], by rw [HR0.out, lf_left], fun x hx => ?_, fun x hx => ?_⟩, HB5.out⟩
          · obtain ⟨p, hp, rfl⟩ := List.mem_map.1 hx
            exact HMw.out p (List.mem_filter.1 hp).1
          · rcases List.mem_append.1 hx with hx | hx
            · exact HMo.out x hx
            · obtain ⟨p, hp, rfl⟩ := List.mem_map.1 hx
              exact HMw.out p (List.mem_filter.1 hp).1
end Go.Proofs.YtclpnhdpojkjpaaGreat.num
namespace Go.Proofs.YtclpnhdpojkjpaaGreat.num
set_option maxRecDepth 20000

/-- The number that bytes encode, most significant first. -/
def beVal (l : List UInt8) : Nat := l.foldl (fun n b => n * 256 + b.toNat) 0
theorem beVal_snoc (l : List UInt8) (b : UInt8) : beVal (l ++ [b]) = beVal l * 256 + b.toNat := by simp [beVal, List.foldl_append]
theorem beVal_cons (b : UInt8) (l : List UInt8) : beVal (b :: l) = b.toNat * 256 ^ l.length + beVal l := by
  have h : ∀ (l : List UInt8) (a : Nat), l.foldl (fun n b => n * 256 + b.toNat) a = a * 256 ^ l.length + beVal l := by
    intro l
    induction l with
    | nil => intro a; simp [beVal]
    | cons c l ih =>
      intro a
      simp only [List.foldl_cons, List.length_cons, beVal]
      rw [ih, ih (0 * 256 + c.toNat), Nat.pow_succ]
      simp only [Nat.zero_mul, Nat.zero_add, Nat.add_mul, Nat.mul_assoc, Nat.mul_comm 256, Nat.add_assoc]
  simp only [beVal, List.foldl_cons]
  rw [h l]; simp [beVal]
theorem beVal_lt (l : List UInt8) : beVal l < 256 ^ l.length := by
  induction l with
  | nil => simp [beVal]
  | cons b l ih =>
    have hb := b.toNat_lt
    have h1 : b.toNat * 256 ^ l.length ≤ 255 * 256 ^ l.length := Nat.mul_le_mul_right _ (by omega)
    rw [beVal_cons, List.length_cons, Nat.pow_succ]
    omega
theorem take_snoc (s : ByteArray) (k : Nat) (h : k < s.size) : s.data.toList.take (k + 1) = s.data.toList.take k ++ [s[k]] := by
  rw [List.take_succ_eq_append_getElem (by simpa using h)]; rfl
theorem pow_le (k : Nat) (h : k ≤ 7) : 256 ^ k ≤ 72057594037927936 := by
  have : 256 ^ k ≤ 256 ^ 7 := Nat.pow_le_pow_right (by decide) h
  simpa using this
theorem pow_le6 (k : Nat) (h : k ≤ 6) : 256 ^ k ≤ 281474976710656 := by
  have : 256 ^ k ≤ 256 ^ 6 := Nat.pow_le_pow_right (by decide) h
  simpa using this
theorem beVal_take_lt6 (s : ByteArray) (k : Nat) (h : k ≤ 6) : beVal (s.data.toList.take k) < 281474976710656 := by
  have h1 := beVal_lt (s.data.toList.take k)
  have h2 : (s.data.toList.take k).length ≤ 6 := by have := List.length_take_le k s.data.toList; omega
  have h3 := pow_le6 _ h2
  omega
/-- Two numbers whose bits do not meet. -/
theorem or_add (a b : Nat) (hb : b < 256) : a * 256 ||| b = a * 256 + b := by
  have h := Nat.two_pow_add_eq_or_of_lt (i := 8) (b := b) (by simpa using hb) a
  rw [Nat.mul_comm a 256]
  simpa using h.symm
theorem beVal_take_lt (s : ByteArray) (k : Nat) (h : k ≤ 7) : beVal (s.data.toList.take k) < 72057594037927936 := by
  have h1 := beVal_lt (s.data.toList.take k)
  have h2 : (s.data.toList.take k).length ≤ 7 := by have := List.length_take_le k s.data.toList; omega
  have h3 := pow_le _ h2
  omega

/-- n as w bytes, most significant first. -/
def beEnc : Nat → Nat → List UInt8
  | 0, _ => []
  | k + 1, n => UInt8.ofNat (n / 256 ^ k) :: beEnc k n
theorem beEnc_length (k n : Nat) : (beEnc k n).length = k := by induction k with
  | zero => rfl
  | succ k ih => simp [beEnc, ih]
theorem beEnc_get (k n j : Nat) (h : j < k) : (beEnc k n)[j]? = some (UInt8.ofNat (n / 256 ^ (k - 1 - j))) := by
  induction k generalizing j with
  | zero => omega
  | succ k ih =>
    cases j with
    | zero => simp [beEnc]
    | succ j => simp only [beEnc, List.getElem?_cons_succ]; rw [ih j (by omega)]; congr 4; omega
theorem beVal_beEnc (k n : Nat) : beVal (beEnc k n) = n % 256 ^ k := by
  induction k with
  | zero => simp [beEnc, beVal, Nat.mod_one]
  | succ k ih =>
    simp only [beEnc]
    rw [beVal_cons, ih, beEnc_length, Nat.pow_succ, Nat.mod_mul]
    simp only [UInt8.toNat_ofNat']
    rw [Nat.mul_comm (256 ^ k)]
    have h2 : (2 : Nat) ^ 8 = 256 := by decide
    rw [h2]; omega

/-- A varint's byte with and without a successor. -/
def hib (m : Nat) : UInt8 := UInt8.ofNat (m % 128 + 128)
def lob (m : Nat) : UInt8 := UInt8.ofNat m
theorem hib_toNat (m : Nat) : (hib m).toNat = m % 128 + 128 := by simp [hib]; omega
theorem lob_toNat (m : Nat) (h : m < 128) : (lob m).toNat = m := by simp [lob]; omega
/-- A number as a varint: seven bits a byte, least significant first. -/
def vEnc (n : Nat) : List UInt8 := if n < 128 then [lob n] else hib n :: vEnc (n / 128)
  termination_by n
  decreasing_by omega
theorem vEnc_small (n : Nat) (h : n < 128) : vEnc n = [lob n] := by rw [vEnc, if_pos h]
theorem vEnc_big (n : Nat) (h : 128 ≤ n) : vEnc n = hib n :: vEnc (n / 128) := by rw [vEnc, if_neg (by omega)]
theorem vEnc_len (k n : Nat) (h : n < 128 ^ (k + 1)) : (vEnc n).length ≤ k + 1 := by
  induction k generalizing n with
  | zero => rw [vEnc_small n (by simpa using h)]; simp
  | succ k ih =>
    by_cases hn : n < 128
    · rw [vEnc_small n hn]; simp
    · rw [vEnc_big n (by omega)]
      have h1 := ih (n / 128) (by rw [Nat.pow_succ] at h; exact Nat.div_lt_of_lt_mul (by omega))
      simpa using h1
theorem vEnc_len7 (n : Nat) (h : n ≤ 562949953421311) : (vEnc n).length ≤ 7 := vEnc_len 6 n (by
  have : (128 : Nat) ^ (6 + 1) = 562949953421312 := by decide
  omega)
theorem vPre_len {pre : List UInt8} {m n : Nat} (h : pre ++ vEnc m = vEnc n) (hn : n ≤ 562949953421311) : pre.length ≤ 7 := by
  have h1 := vEnc_len7 n hn
  rw [← h, List.length_append] at h1
  omega
theorem vPre_step {pre : List UInt8} {m n : Nat} (h : pre ++ vEnc m = vEnc n) (hm : 128 ≤ m) : (pre ++ [hib m]) ++ vEnc (m / 128) = vEnc n := by
  rw [← h, vEnc_big m hm]; simp
theorem vPre_end {pre : List UInt8} {m n : Nat} (h : pre ++ vEnc m = vEnc n) (hm : m < 128) : pre ++ [lob m] = vEnc n := by
  rw [← h, vEnc_small m hm]
end Go.Proofs.YtclpnhdpojkjpaaGreat.num
namespace Go.Proofs.YtclpnhdpojkjpaaGreat.num
set_option maxRecDepth 20000
open Go.RowKit

theorem or_i64 (a b : Nat) (ha : a < 281474976710656) (hb : b < 256) : bits .or .i64 ((a : Int) * 256) (b : Int) = ((a * 256 + b : Nat) : Int) := by
  show IntKind.i64.wrap ((BitVec.ofInt 64 ((a : Int) * 256) ||| BitVec.ofInt 64 (b : Int)).toNat : Int) = _
  have e : ((a : Int) * 256) = ((a * 256 : Nat) : Int) := by omega
  rw [e, BitVec.toNat_or, ofInt_u64 _ (by omega), ofInt_u64 b (by omega), or_add a b hb]
  exact IntWalk.i64_in _ ⟨by omega, by omega⟩

/-- l1In of the model. -/
theorem in_any (x l h : Int) (b : Bool) (hb : b = true ↔ l ≤ x ∧ x ≤ h) (w : World) :
    Calls Tryz.prog 40 #[.int .i64 x, .int .i64 l, .int .i64 h] w fun e w' => e = .returned (.bool b) ∧ w = w' := by
  obtain rfl : b = (decide (l ≤ x) && decide (x ≤ h)) := by rw [Bool.eq_iff_iff]; simpa using hb
  clear hb
  by_cases h1 : l ≤ x
  · go_enter Tryz.func40, Tryz.ntmps40
    go_wp2
    go_ret
    exact ⟨by simp [h1], rfl⟩
  · go_enter Tryz.func40, Tryz.ntmps40
    go_wp2
    go_ret
    exact ⟨by simp; omega, rfl⟩

end Go.Proofs.YtclpnhdpojkjpaaGreat.num
namespace Go.Proofs.YtclpnhdpojkjpaaGreat.num
set_option maxRecDepth 20000
open Go.RowKit
set_option linter.unusedVariables false
set_option linter.unusedSimpArgs false

theorem Items.of_read {w : World} {B : Nat} {A : Option Addr} {n : Nat} {l : List It} (h : ReadG itCs 2 w B A n l) (hx : ∀ u ∈ l, Ints w B u.A u.n u.xs) : Items w B A n l := by
  refine ⟨h.len, fun k hk => ?_⟩
  obtain ⟨b, off, hA, hb, hc⟩ := h.at' k l[k] (List.getElem?_eq_getElem hk)
  exact ⟨b, off, hA, hb, hc 0 _ rfl, hc 1 _ rfl, hx _ (List.getElem_mem hk)⟩
theorem BlockP.some (nds : List ND) (ds : List Dt) (N : Int) : ∃ r p, BlockP nds ds N r p := by
  by_cases h : IsE nds ∧ AreP ds ∧ (1 ≤ N ∧ N ≤ 16)
  · obtain ⟨h1, h2, h3⟩ := h
    obtain ⟨t, ht⟩ := h1.2
    exact ⟨_, _, .inl ⟨t, h1, h2, h3, ht, sort_merge _, rfl⟩⟩
  · exact ⟨[], 0, .inr ⟨h, rfl, rfl⟩⟩
theorem BlockP.small {nds : List ND} {ds : List Dt} {N : Int} {r : List Int} {p : Int} (h : BlockP nds ds N r p) : r.length ≤ 16 := by
  rcases h with ⟨t, _, h2, h3, _, h5, _⟩ | ⟨_, rfl, _⟩
  · have h6 := blocks_le t N.toNat (by omega) ds.length ds (Nat.le_refl _)
    have h7 := h2.2.2
    rw [h5.len]
    unfold idsD
    rw [List.length_map]
    omega
  · simp
set_option maxRecDepth 20000 in
set_option maxHeartbeats 3200000 in
theorem sBlock (w : World) (B : Nat) (A : Option Addr) (n c : Nat) (its : List It) (A2 : Option Addr) (n2 c2 : Nat) (ns : List Nd) (h : InB w B A n its A2 n2 c2 ns) (N : Int) (r : List Int) (P : Int) (hL : BlockP (datN ns) (its.map It.dat) N r P) :
    Calls Tryz.prog 10 #[.slice A n c, .slice A2 n2 c2, .int .i64 N] w fun e w' => (∃ v, e = .returned (.tuple #[v, .int .i64 P]) ∧ OwnI w' w.heap.size v r) ∧ Below w.heap.size w w' := by
  obtain ⟨q, hq⟩ := bool_of (IsE (datN ns) ∧ AreP (its.map It.dat))
  obtain ⟨qn, hqn⟩ := bool_of (1 ≤ N ∧ N ≤ 16)
  have HB0 : Hid (Below w.heap.size w (w.alloc (.cells #[] 3))) := Lib.hid ((Below.refl _ w).alloc (Nat.le_refl _) _)
  have HE0 : Hid (OwnI (w.alloc (.cells #[] 3)) w.heap.size (.slice (some ⟨w.heap.size, 0, none⟩) 0 0) []) := Lib.hid (OwnI.empty w _ (Nat.le_refl _))
  have HF := Lib.hid (sFine (w.alloc (.cells #[] 3)) B A n c its A2 n2 c2 ns (h.below HB0.out) q hq)
  have HI := Lib.hid h
  have HN := Lib.hid (fun w1 : World => in_any N 1 16 qn hqn w1)
  have HQ := Lib.hid hq
  have HQn := Lib.hid hqn
  have HL := Lib.hid hL
  have HNo : Hid (¬ (q = true ∧ qn = true) → r = [] ∧ P = 0) := Lib.hid fun hh => by
    rcases hL with ⟨t, h1, h2, h3, _⟩ | ⟨_, h1, h2⟩
    · exact absurd ⟨hq.2 ⟨h1, h2⟩, hqn.2 h3⟩ hh
    · exact ⟨h1, h2⟩
  obtain ⟨g, hg⟩ : ∃ g, w.heap.size = g := ⟨_, rfl⟩
  clear h hL hq hqn hg g
  go_enter Tryz.func10, Tryz.ntmps10
  go_wp2_with fail
  refine HF.out.mono ?_
  rintro e w1 ⟨rfl, hb1⟩
  have HB1 := Lib.hid (below_on HB0.out hb1)
  have HE1 := Lib.hid (ownI_below HE0.out hb1)
  clear hb1 HF
  cases q
  · obtain ⟨rfl, rfl⟩ := HNo.out (by simp)
    go_wp2
    go_ret2
    exact ⟨⟨_, rfl, HE1.out⟩, HB1.out⟩
  go_wp2_with fail
  refine (HN.out _).mono ?_
  rintro e w2 ⟨rfl, rfl⟩
  cases qn
  · obtain ⟨rfl, rfl⟩ := HNo.out (by simp)
    go_wp2
    go_ret2
    exact ⟨⟨_, rfl, HE1.out⟩, HB1.out⟩
  obtain ⟨m, rfl⟩ : ∃ m : Nat, N = (m : Int) := ⟨N.toNat, by have := (HQn.out.1 (by first | rfl | trivial)).1; omega⟩
  have hm0 : 0 < m := by have := (HQn.out.1 (by first | rfl | trivial)).1; omega
  have hm16 : m ≤ 16 := by have := (HQn.out.1 (by first | rfl | trivial)).2; omega
  obtain ⟨he, ha⟩ := HQ.out.1 (by first | rfl | trivial)
  obtain ⟨t, ht⟩ := he.2
  have HHe := Lib.hid he
  have HHa := Lib.hid ha
  have HHt := Lib.hid ht
  have H16 : Hid (its.length ≤ 16) := Lib.hid (by have h := ha.2.2; rwa [List.length_map] at h)
  have HLe : Hid (SortP (idsD (blocks t m its.length (its.map It.dat)).1) r ∧ P = ((blocks t m its.length (its.map It.dat)).2 : Nat)) := Lib.hid (by
    rcases HL.out with ⟨t', _, _, _, h4, h5, h6⟩ | ⟨hn', _⟩
    · obtain rfl := h4.one ht
      rw [Int.toNat_natCast, List.length_map] at h5 h6
      exact ⟨h5, h6⟩
    · exact absurd ⟨he, ha, by omega, by omega⟩ hn')
  have hln : n ≤ 16 := by have h1 := HI.out.i.1; have h2 := H16.out; omega
  have HRd : Hid (ReadG itCs 2 w1 w1.heap.size A its.length its) := Lib.hid (by
    have h1 := (HI.out.below HB1.out)
    have h2 := h1.i.readT.more h1.hB
    rwa [← HI.out.i.1] at h2)
  have hnl : its.length = n := HI.out.i.1
  clear he ha ht HNo HN
  go_wp2
  go_loopw [8, 9, 10] (fun bv lv jv wr => ∃ (lb ll : List It) (j : Nat) (A9 : Option Addr) (c9 : Nat), lv = .slice A9 ll.length c9 ∧ jv = .int .i64 j ∧ BkInv t m its lb ll j ∧ OwnI wr w.heap.size bv (idL lb) ∧ ReadG itCs 2 wr wr.heap.size A9 ll.length ll ∧ Below w.heap.size w wr) (fun _ lv _ _ => match lv with | .slice _ q _ => q | _ => 0)
  case atStart => exact ⟨[], its, 0, A, c, by rw [hnl], rfl, BkInv.start _ _ _, HE1.out, HRd.out, HB1.out⟩
  case round =>
    obtain ⟨lb, ll, j, A9, c9, rfl, rfl, hinv, hown, hread, hbel⟩ := hrel
    have HI2 := Lib.hid hinv
    have HO := Lib.hid hown
    have HR := Lib.hid hread
    have HB := Lib.hid hbel
    have hs1 := hinv.small hm0
    have hj16 : j ≤ 16 := by have := H16.out; omega
    obtain ⟨A8, n8, c8, rfl, hi8⟩ := hown.ints
    have hn8 : n8 ≤ 2097152 := by
      have h1 := hi8.1
      rw [idL_len] at h1
      have := H16.out
      omega
    have HI8 := Lib.hid hi8
    clear hinv hown hread hbel hs1 hi8
    by_cases hl : ll = []
    · subst hl
      have HD := Lib.hid HI2.out.done
      go_wp2_with fail
      refine (sSort wr wr.heap.size A8 n8 c8 _ HI8.out (Nat.le_refl _) hn8).mono ?_
      rintro e w2 ⟨⟨v, s, rfl, hs, ho⟩, hb2⟩
      have HB2 := Lib.hid (below_on HB.out hb2)
      have HO2 := Lib.hid (ownI_lower ho HB.out.size)
      have HS : Hid (s = r) := Lib.hid (by
        have h := HLe.out.1
        rw [HD.out] at h
        replace h : SortP (idsD (lb.map It.dat)) r := h
        rw [ids_seg] at h
        exact hs.one h (.refl _))
      have HP : Hid (P = (j : Int)) := Lib.hid (by rw [HLe.out.2, HD.out])
      clear hs ho hb2
      go_wp2
      go_ret2
      obtain rfl := HS.out
      obtain rfl := HP.out
      exact ⟨⟨_, rfl, HO2.out⟩, HB2.out⟩
    · have HLl := Lib.hid hl
      have hpos : 0 < ll.length := List.length_pos_iff.2 hl
      have hgt : decide ((ll.length : Int) > 0) = true := by simp; omega
      have hll : ll.length ≤ 1048575 := by have h1 := HI2.out.ln; have h2 := H16.out; omega
      clear hl
      go_wp2_with fail
      refine (sPass wr B A n c its A2 n2 c2 ns (HI.out.below HB.out) HHe.out HHa.out t HHt.out A9 ll.length c9 ll HR.out HI2.out.ml hll m hm0 (by omega)).mono ?_
      rintro e w2 ⟨⟨v1, v2, dn, ov, rfl, ho1, ho2, hd, hv, md, mo⟩, hb2⟩
      obtain ⟨A1, c1, rfl, -, -⟩ := ho1.shape
      obtain ⟨A3, c3, rfl, -, -⟩ := ho2.shape
      have HB2 := Lib.hid (below_on HB.out hb2)
      have HOb := Lib.hid (ownI_below HO.out hb2)
      have HO2 := Lib.hid ho2
      have hroom := HI2.out.room hm0 HLl.out hd
      have HI3 := Lib.hid (HI2.out.step hm0 HLl.out hd hv md mo)
      have hlt2 : ov.length < ll.length := by
        have h1 := pass_less t m hm0 (l := ll.map It.dat) (by simpa using HLl.out)
        rw [← hv, List.length_map, List.length_map] at h1
        exact h1
      have HId : Hid (Items w2 w2.heap.size A1 dn.length dn) := Lib.hid (Items.of_read (ho1.read itCs_len) fun u hu => ((HI.out.below HB2.out).i.mem (HI2.out.ml u (md u hu))).more (HI.out.below HB2.out).hB)
      have hdn : dn.length ≤ 1048576 := by have := H16.out; omega
      have hj1 : j + 1 ≤ 16 := by have := H16.out; omega
      have hHr := Lib.hid hroom
      clear ho1 ho2 hd hv md mo hb2 hroom
      go_wp2_with fail
      refine (sIds w2 w2.heap.size A1 dn.length c1 dn HId.out (Nat.le_refl _) hdn).mono ?_
      rintro e w3 ⟨⟨A5, n5, c5, rfl, hi5⟩, hb3⟩
      have HB3 := Lib.hid (below_on HB2.out hb3)
      have HOc := Lib.hid (ownI_below HOb.out hb3)
      have HO3 := Lib.hid (HO2.out.below hb3)
      have hsz : w.heap.size ≤ w3.heap.size := HB3.out.size
      obtain rfl : n5 = dn.length := by rw [← hi5.1, idL_len]
      obtain ⟨v', w4, hr, ho4, hg4, hat4⟩ := run_spreadI (ty := 28) (c := c5) HOc.out hi5 (by rw [idL_len]; have h1 := hHr.out; have h2 := H16.out; omega) hsz
      have HO4 : Hid (OwnI w4 w.heap.size v' (idL (lb ++ dn))) := Lib.hid (by unfold idL at ho4 ⊢; rw [List.map_append]; exact ho4)
      have HB4 := Lib.hid (HB3.out.grown hg4 hsz (fun k hk => ownI_lows HOc.out k hk))
      have HV4 := Lib.hid (HO3.out.apart (fun b h1 h2 => by
        have q1 := HO3.out.lows b h1
        have q2 := ownI_tops HO.out b h2
        omega) hg4)
      clear ho4 hg4 hat4 hb3 hi5
      go_wp2_with (at_builtin; refine Go.Lib.wpList_append_run_sl _ (by rfl) (.tmp 35) (.tmp 37) 28 (by rfl) _ _ (by rfl) (by rfl) hr ?_)
      clear hr
      go_wp2
      go_roundw
      case rel => exact ⟨_, ov, j + 1, A3, c3, rfl, by go_num, HI3.out, HO4.out, HV4.out.read itCs_len, HB4.out⟩
      case measure => simpa using hlt2
end Go.Proofs.YtclpnhdpojkjpaaGreat.num
namespace Go.Proofs.YtclpnhdpojkjpaaGreat.num
set_option maxRecDepth 20000
set_option linter.unusedVariables false

theorem MergeP.some (nds : List ND) (ds : List Dt) (a b : List Int) : ∃ r, MergeP nds ds a b r := by
  by_cases h : IsE nds ∧ AreP ds ∧ Known ds a ∧ Known ds b
  · obtain ⟨h1, h2, h3, h4⟩ := h
    obtain ⟨t, ht⟩ := h1.2
    exact ⟨_, .inl ⟨t, h1, h2, h3, h4, ht, sort_merge _⟩⟩
  · exact ⟨[], .inr ⟨h, rfl⟩⟩
theorem MergeP.small {nds : List ND} {ds : List Dt} {a b r : List Int} (h : MergeP nds ds a b r) : r.length ≤ a.length + b.length := by
  rcases h with ⟨t, _, _, _, _, _, h6⟩ | ⟨_, rfl⟩
  · rw [h6.len]
    unfold mergeL
    rw [List.length_append]
    have q1 := List.length_filter_le (fun i => !b.any fun k => btI t ds k i) a
    have q2 := List.length_filter_le (fun k => !a.any fun i => btI t ds i k) b
    omega
  · simp
end Go.Proofs.YtclpnhdpojkjpaaGreat.num
namespace Go.Proofs.YtclpnhdpojkjpaaGreat
set_option maxRecDepth 20000
open Go

theorem leaving_alone {P : Program} {last : Machine} {w : World} {t : Trace} (h : aloneAtReturn P last w t) : leavingAtReturn P last w t := by
  obtain ⟨⟨h1, h0⟩, h2, h3⟩ := h
  refine ⟨h2, ⟨fun g hg => ?_, h0⟩, h3⟩
  refine ⟨0, ?_⟩
  unfold Machine.othersDone at h1
  unfold Goroutine.LeavesIn
  have := List.all_eq_true.1 h1 g (by simpa using hg)
  simpa using this
theorem leaving_handed {a : Assume} {C : Checked} {os : Os} {f : FuncId} {r : Reach} {Pre : World → Array Value → Prop} {Post : World → Array Value → Value → World → Prop}
    (h : ReturnsInHanded a C os f r Pre Post) : ReturnsInLeavingWide a C os f r Pre Post := fun enter =>
  ReturnsInOpen.mono (fun _ _ _ x => leaving_alone x) (fun _ x => x) (h enter)
end Go.Proofs.YtclpnhdpojkjpaaGreat
