/-
  The model's GreedySet: contract.
-/
import Derived.BigQuiet
import Derived.Deep.Cut
import Derived.Deep.CutRange
import Derived.Test.YtjjlhiaghjipcaaRegretS
import Derived.Test.YtjjlhiaghjipcaaRegGreedy
import Derived.Test.YtjjlhiaghjipcaaRegion
namespace Go.Proofs.Ytjjlhiaghjipcaa.num
set_option maxRecDepth 20000
open Go.RowKit
set_option linter.unusedVariables false
set_option linter.unusedSimpArgs false

theorem Items.more' {w : World} {B B' : Nat} {A : Option Addr} {n : Nat} {its : List It} (h : Items w B A n its) (hB : B ≤ B') : Items w B' A n its := h.up hB
theorem ownI_oneG (w : World) (B : Nat) (x : Int) (hB : B ≤ w.heap.size) : OwnI (w.alloc (.cells #[.int .i64 x] 3)) B (.slice (some ⟨w.heap.size, 0, none⟩) 1 1) [x] :=
  ⟨rfl, .inr ⟨w.heap.size, 1, #[.int .i64 x], rfl, hB, heap_alloc_new w _, Nat.le_refl _, by decide, rfl, rfl⟩⟩
/-- The state of the search for the next item. -/
def PickR (G : Da → Rg) (o : Option Da) (pick num den : Int) : Prop := (o = none ∧ pick = -1 ∧ num = 0 ∧ den = 1) ∨ ∃ x : Da, o = some x ∧ pick = x.1 ∧ num = (G x).num ∧ den = (G x).den
theorem PickR.first {G : Da → Rg} {num den : Int} (x : Da) (h : PickR G none (-1) num den) : PickR G (pickS G none x) x.1 (G x).num (G x).den := .inr ⟨x, rfl, rfl, rfl, rfl⟩
theorem PickR.yes {G : Da → Rg} {y : Da} {pick num den : Int} (x : Da) (h : PickR G (some y) pick num den) (hl : (G x).num * den < num * (G x).den) : PickR G (pickS G (some y) x) x.1 (G x).num (G x).den := by
  rcases h with ⟨h, _⟩ | ⟨z, h, _, h2, h3⟩
  · cases h
  · obtain rfl := Option.some.inj h
    have e : (G x).less (G y) = true := by unfold Rg.less; rw [decide_eq_true_eq, ← h2, ← h3]; exact hl
    refine .inr ⟨x, ?_, rfl, rfl, rfl⟩
    show (if (G x).less (G y) = true then some x else some y) = some x
    rw [if_pos e]
theorem PickR.no {G : Da → Rg} {y : Da} {pick num den : Int} (x : Da) (h : PickR G (some y) pick num den) (hl : ¬ (G x).num * den < num * (G x).den) : PickR G (pickS G (some y) x) pick num den := by
  rcases h with ⟨h, _⟩ | ⟨z, h, h1, h2, h3⟩
  · cases h
  · obtain rfl := Option.some.inj h
    have e : (G x).less (G y) = false := by unfold Rg.less; rw [decide_eq_false_iff_not, ← h2, ← h3]; exact hl
    refine .inr ⟨y, ?_, h1, h2, h3⟩
    show (if (G x).less (G y) = true then some x else some y) = some y
    rw [if_neg (by rw [e]; decide)]
theorem restD_at {cs ds : List Da} {i : Nat} {x : Da} (h : ds[i]? = some x) : (x.1 ∈ idsA cs → restD cs (ds.take (i + 1)) = restD cs (ds.take i)) ∧ (x.1 ∉ idsA cs → restD cs (ds.take (i + 1)) = restD cs (ds.take i) ++ [x]) := by
  rw [take_at h, restD_snoc]
  exact ⟨fun h => by rw [if_pos h], fun h => by rw [if_neg h]⟩
def lenW : Value → Nat
  | .slice _ n _ => n
  | _ => 0
set_option maxRecDepth 20000 in
set_option maxHeartbeats 6400000 in
theorem sGreedy (w : World) (B : Nat) (A : Option Addr) (n c : Nat) (its : List It) (hi : Items w B A n its) (hB : B ≤ w.heap.size) (hn : n ≤ 1048576) (hN : ∀ t ∈ its, t.n ≤ 1048576) (size : Int) (D : List Int) (hD : GreedP (its.map It.dat) size D) :
    Calls Try.prog 27 #[.slice A n c, .int .i64 size] w fun e w' => (∃ v, e = .returned v ∧ OwnI w' w.heap.size v D) ∧ Below w.heap.size w w' := by
  obtain ⟨qa, hqa⟩ := bool_of (AreP (its.map It.dat))
  have HAr : Hid (∀ W, Below w.heap.size w W → Calls Try.prog 18 #[.slice A n c] W fun e w' => e = .returned (.bool qa) ∧ Below W.heap.size W w') := Lib.hid fun W hW => sAre W B A n c its (hi.below (hW.mono hB)) (Nat.le_trans hB hW.size) hn hN qa hqa
  have HI : Hid (∀ W, Below w.heap.size w W → Items W W.heap.size A n its) := Lib.hid fun W hW => ((hi.more' hB).below hW).more' hW.size
  have HRe : Hid (∀ W (A4 : Option Addr) (n4 c4 : Nat) (xs : List Int) (N E : Int) (ws : List Int), Below w.heap.size w W → Ints W W.heap.size A4 n4 xs → n4 ≤ 1048577 → RegP (its.map It.dat) xs N E ws → Calls Try.prog 13 #[.slice A n c, .slice A4 n4 c4] W fun e w' => (∃ v, e = .returned (.tuple #[.int .i64 N, .int .i64 E, v]) ∧ OwnI w' W.heap.size v ws) ∧ Below W.heap.size W w') := Lib.hid fun W A4 n4 c4 xs N E ws hW h4 hn4 hP => sRegretOf W B A n c its (hi.below (hW.mono hB)) (Nat.le_trans hB hW.size) hn hN W.heap.size A4 n4 c4 xs h4 (Nat.le_refl _) hn4 N E ws hP
  have hil : its.length = n := hi.1
  have hdl : (its.map It.dat).length = n := by rw [List.length_map, hil]
  have HAt : Hid (∀ (i : Nat) (x : It), its[i]? = some x → (its.map It.dat)[i]? = some x.dat) := Lib.hid fun i x h => by rw [List.getElem?_map, h]; rfl
  obtain ⟨ds, hds⟩ : ∃ ds, its.map It.dat = ds := ⟨_, rfl⟩
  rw [hds] at hqa hD HRe hdl HAt
  have HLk : Hid (∀ k, k ≤ n → (qa = false → k = 0) → (idsA (greedy ds k)).length = k) := Lib.hid fun k hk h0 => by
    cases qa
    · obtain rfl := h0 rfl; rfl
    · unfold idsA
      rw [List.length_map]
      exact (greedy_len (ids_nodup (hqa.1 rfl)) k (by rw [hdl]; exact hk)).1
  have HEx : Hid (∀ k, k ≤ size.toNat → k ≤ n → (qa = false → k = 0) → (¬ ((k : Int) < size ∧ k < n) ∨ qa = false) → D = idsA (greedy ds k)) := Lib.hid fun k h1 h2 h3 h4 => by
    cases qa
    · obtain rfl := h3 rfl
      exact hD.no fun h => by have := hqa.2 h; cases this
    · have h5 := hD.yes (hqa.1 rfl)
      rw [hdl] at h5
      have h6 : k = min size.toNat n := by
        rcases h4 with h4 | h4
        · omega
        · cases h4
      rw [h5, ← h6]
  have HQa : Hid (qa = true → AreP ds) := Lib.hid hqa.1
  have HDl := Lib.hid hdl
  clear hi hD hqa hds hdl
  have HB0 : Hid (Below w.heap.size w (w.alloc (.cells #[] 3))) := Lib.hid ((Below.refl _ w).alloc (Nat.le_refl _) _)
  have HE0 : Hid (OwnI (w.alloc (.cells #[] 3)) w.heap.size (.slice (some ⟨w.heap.size, 0, none⟩) 0 0) (idsA (greedy ds 0))) := Lib.hid (OwnI.empty w w.heap.size (Nat.le_refl _))
  go_enter Try.func27, Try.ntmps27
  go_wp2
  go_loopw [5] (fun v wr => ∃ (k : Nat) (V : Value), V = v ∧ k ≤ size.toNat ∧ k ≤ n ∧ (qa = false → k = 0) ∧ OwnI wr w.heap.size V (idsA (greedy ds k)) ∧ Below w.heap.size w wr) (fun v _ => n - lenW v)
  case atStart => exact ⟨0, _, rfl, Nat.zero_le _, Nat.zero_le _, fun _ => rfl, HE0.out, HB0.out⟩
  case round =>
    obtain ⟨k, V, rfl, hks, hkn, hk0, hown, hbel⟩ := hrel
    have HO := Lib.hid hown
    have HB := Lib.hid hbel
    have HK0 := Lib.hid hk0
    obtain ⟨A5, n5, c5, hV, hints⟩ := hown.ints
    subst hV
    have hn5 : n5 = k := by rw [← hints.1]; exact HLk.out k hkn hk0
    subst hn5
    clear hown hbel hk0 hints
    by_cases h1 : (n5 : Int) < size
    · by_cases h2 : n5 < n
      · have h2' : (n5 : Int) < (n : Int) := by omega
        go_wp2_with fail
        refine (HAr.out _ HB.out).mono ?_
        rintro e w1 ⟨rfl, hb1⟩
        have HB1 := Lib.hid (below_on HB.out hb1)
        have HO1 := Lib.hid (ownI_below HO.out hb1)
        clear hb1
        cases qa
        · obtain rfl := HEx.out n5 hks hkn HK0.out (.inr rfl)
          go_wp2
          go_ret
          exact ⟨⟨_, rfl, HO1.out⟩, HB1.out⟩
        · have hA := HQa.out (by first | rfl | trivial)
          have HA := Lib.hid hA
          have HNd := Lib.hid (ids_nodup hA)
          have hn16 : n ≤ 16 := by have h := hA.2.2; rw [HDl.out] at h; exact h
          obtain ⟨cs, hcs⟩ : ∃ cs, greedy ds n5 = cs := ⟨_, rfl⟩
          have HCs := Lib.hid hcs
          have HSub : Hid (∀ d ∈ cs, d ∈ ds) := Lib.hid (by rw [← hcs]; exact greedy_sub ds n5)
          have HO2 : Hid (OwnI w1 w.heap.size (.slice A5 n5 c5) (idsA cs)) := Lib.hid (by rw [← hcs]; exact HO1.out)
          clear hcs hA HO1 HO
          have HIn : Hid (∀ W, Below w1.heap.size w1 W → Ints W W.heap.size A5 n5 (idsA cs)) := Lib.hid fun W hW => ((ownI_at HO2.out).below hW).more hW.size
          have HPs : Hid (PickR (greedF ds cs) (pickF (greedF ds cs) (restD cs (ds.take 0))) (-1) 0 1) := Lib.hid (.inl ⟨rfl, rfl, rfl, rfl⟩)
          go_wp2
          go_loopw [6, 7, 8, 9] (fun pv nv dv iv wr => ∃ (i : Nat) (pick num den : Int), i ≤ n ∧ iv = .int .i64 i ∧ pv = .int .i64 pick ∧ nv = .int .i64 num ∧ dv = .int .i64 den ∧ PickR (greedF ds cs) (pickF (greedF ds cs) (restD cs (ds.take i))) pick num den ∧ Below w1.heap.size w1 wr) (fun _ _ _ iv _ => n - (intOf iv).toNat)
          case atStart => exact ⟨0, -1, 0, 1, Nat.zero_le _, rfl, rfl, rfl, rfl, HPs.out, Below.refl _ _⟩
          case round =>
            obtain ⟨i, pick, num, den, hin, rfl, rfl, rfl, rfl, hp, hbel⟩ := hrel
            have HP := Lib.hid hp
            have HBi := Lib.hid hbel
            clear hp
            by_cases hlt : i < n
            · obtain ⟨b, off, x, hA', hb, hat, d0, d1, hx⟩ := (HI.out wr (below_on HB1.out hbel)).at i hlt
              subst hA'
              have hlt' : (i : Int) < (n : Int) := by omega
              have hdat := HAt.out i x hat
              have hxm : x.dat ∈ ds := List.mem_of_getElem? hdat
              obtain ⟨q, hq⟩ := bool_of (x.id ∈ idsA cs)
              have hre := restD_at (cs := cs) hdat
              have HRs := Lib.hid hre
              have HXm := Lib.hid hxm
              have HQ := Lib.hid hq
              clear hat d1 hx hdat hxm hre hq hbel
              go_wp2_with fail
              refine (has_of wr wr.heap.size A5 n5 c5 (idsA cs) (HIn.out wr HBi.out) (by omega) x.id q HQ.out).mono ?_
              rintro e w2 ⟨rfl, rfl⟩
              cases q
              · have hni : x.dat.1 ∉ idsA cs := fun h => by have := HQ.out.2 h; cases this
                have HSn : Hid (restD cs (ds.take (i + 1)) = restD cs (ds.take i) ++ [x.dat]) := Lib.hid (HRs.out.2 hni)
                obtain ⟨N, E, ws, hP⟩ := RegP.some ds (idsA cs ++ [x.id])
                have hkn2 : KnownP ds (idsA cs ++ [x.id]) := by
                  intro z hz
                  rcases List.mem_append.1 hz with h | h
                  · obtain ⟨d, hd, rfl⟩ := List.mem_map.1 h
                    exact ⟨d, HSub.out d hd, rfl⟩
                  · obtain rfl := List.mem_singleton.1 h
                    exact ⟨x.dat, HXm.out, rfl⟩
                obtain ⟨e1, e2, e3⟩ := hP.yes HA.out hkn2
                have hge := greed_ids (x := x.dat) HNd.out HSub.out HXm.out
                have e0 : x.dat.1 = x.id := rfl
                rw [e0] at hge
                rw [hge] at e1 e2
                have hsm := hP.small
                have HNE := Lib.hid (And.intro e1 e2)
                have HCall : Hid (∀ W (A4 : Option Addr) (n4 c4 : Nat), Below w1.heap.size w1 W → Ints W W.heap.size A4 n4 (idsA cs ++ [x.id]) → n4 ≤ 1048577 → Calls Try.prog 13 #[.slice (some ⟨b, off, none⟩) n c, .slice A4 n4 c4] W fun e w' => (∃ v, e = .returned (.tuple #[.int .i64 N, .int .i64 E, v]) ∧ OwnI w' W.heap.size v ws) ∧ Below W.heap.size W w') := Lib.hid fun W A4 n4 c4 hW h4 hn4 => HRe.out W A4 n4 c4 _ N E ws (below_on HB1.out hW) h4 hn4 hP
                clear hP hkn2 e1 e2 e3 hge hni
                obtain ⟨wR, rfl⟩ : ∃ wR, wR = wr := ⟨_, rfl⟩
                have HBR := HBi
                have f1 := d0
                have hbR : b < wR.heap.size := hb
                clear d0 hb
                go_upto_region 10 with (fail)
                go_cut [10, 11] from 42 to 58 (fun s10 s11 wx => s10 = .int .i64 N ∧ s11 = .int .i64 E ∧ Below wR.heap.size wR wx)
                case first =>
                  have hS0 : (fun w' => w'.cell? ⟨b, off + i * 2, none⟩ = some (.int .i64 x.id)) wR.drew := f1
                  refine wp_region_held (S := fun w' => w'.cell? ⟨b, off + i * 2, none⟩ = some (.int .i64 x.id)) (by kernel_rfl) ?_
                  change wpAnyH _ _ _ _ _ _ _ _ (World.drew _)
                  have hBD0 : Below wR.heap.size wR wR.drew := (Below.refl _ wR).drew
                  obtain ⟨wD, hwD⟩ : ∃ wD, World.drew wR = wD := ⟨_, rfl⟩
                  rw [hwD] at hS0 ⊢
                  have hBD : Below wR.heap.size wR wD := by rw [← hwD]; exact hBD0
                  clear hwD hBD0
                  refine takeY 43 (i := 0) (v := ?vx1) rfl rfl (by kernel_rfl) (by kernel_rfl) (by kernel_rfl) (fun _ _ _ h => h) (by kernel_rfl) ?yx1 hS0 ?_
                  case yx1 =>
                    intro w' hw'; (try dsimp only at hw'); obtain q1 := hw'; go_simp; try with_reducible rfl
                  simp only [Act.put, List.setIfInBounds_toArray, List.set_cons_zero, List.set_cons_succ]
                  refine takeY 45 (i := 2) (v := ?vx2) rfl rfl (by kernel_rfl) (by kernel_rfl) (by kernel_rfl) (fun _ _ _ h => h) (by kernel_rfl) ?yx2 hS0 ?_
                  case yx2 =>
                    intro w' hw'; (try dsimp only at hw'); obtain q1 := hw'; go_simp; try with_reducible rfl
                  simp only [Act.put, List.setIfInBounds_toArray, List.set_cons_zero, List.set_cons_succ]
                  refine takeY 47 (i := 4) (v := ?vx3) rfl rfl (by kernel_rfl) (by kernel_rfl) (by kernel_rfl) (fun _ _ _ h => h) (by kernel_rfl) ?yx3 hS0 ?_
                  case yx3 =>
                    intro w' hw'; (try dsimp only at hw'); obtain q1 := hw'; go_simp; try with_reducible rfl
                  simp only [Act.put, List.setIfInBounds_toArray, List.set_cons_zero, List.set_cons_succ]
                  refine takeY 48 (i := 5) (v := ?vx4) rfl rfl (by kernel_rfl) (by kernel_rfl) (by kernel_rfl) (fun _ _ _ h => h) (by kernel_rfl) ?yx4 hS0 ?_
                  case yx4 =>
                    intro w' hw'; (try dsimp only at hw'); obtain q1 := hw'; go_simp; try with_reducible rfl
                  simp only [Act.put, List.setIfInBounds_toArray, List.set_cons_zero, List.set_cons_succ]
                  refine takeY 49 (i := 6) (v := ?vx5) rfl rfl (by kernel_rfl) (by kernel_rfl) (by kernel_rfl) (fun _ _ _ h => h) (by kernel_rfl) ?yx5 hS0 ?_
                  case yx5 =>
                    intro w' hw'; (try dsimp only at hw'); obtain q1 := hw'; go_simp; try with_reducible rfl
                  simp only [Act.put, List.setIfInBounds_toArray, List.set_cons_zero, List.set_cons_succ]
                  refine takeY 50 (i := 7) (v := ?vx6) rfl rfl (by kernel_rfl) (by kernel_rfl) (by kernel_rfl) (fun _ _ _ h => h) (by kernel_rfl) ?yx6 hS0 ?_
                  case yx6 =>
                    intro w' hw'; (try dsimp only at hw'); obtain q1 := hw'; go_simp; try with_reducible rfl
                  simp only [Act.put, List.setIfInBounds_toArray, List.set_cons_zero, List.set_cons_succ]
                  refine takeY 51 (i := 8) (v := ?vx7) rfl rfl (by kernel_rfl) (by kernel_rfl) (by kernel_rfl) (fun _ _ _ h => h) (by kernel_rfl) ?yx7 hS0 ?_
                  case yx7 =>
                    intro w' hw'; (try dsimp only at hw'); obtain q1 := hw'; go_simp; try with_reducible rfl
                  simp only [Act.put, List.setIfInBounds_toArray, List.set_cons_zero, List.set_cons_succ]
                  refine wpAnyH_ready (rs := [1, 9]) (by kernel_rfl) (by simp) ?_
                  refine (AllReadyH.cons rfl (fun K hK => ?_) (AllReadyH.cons rfl (fun K hK => ?_) AllReadyH.nil))
                  · go_simp
                    refine hK.out _ _ (((hBD.alloc hBD.size _).cell (p := ⟨b, off + i * 2, none⟩) hbR).trans f1) (fun hS1 => ?_)
                    clear hK K
                    try simp only [Act.put, List.setIfInBounds_toArray, List.set_cons_zero, List.set_cons_succ]
                    obtain ⟨w1, hw1⟩ : ∃ w', World.alloc wD (.cells #[] 3) = w' := ⟨_, rfl⟩
                    have hB1 : Below wR.heap.size wR w1 := by rw [← hw1]; exact hBD.alloc hBD.size _
                    have hb1 : Below wD.heap.size wD w1 := by rw [← hw1]; exact (Below.refl _ _).alloc (Nat.le_refl _) _
                    have hE1 : OwnI w1 wR.heap.size (.slice (some ⟨wD.heap.size, 0, none⟩) 0 0) [] := by rw [← hw1]; exact OwnI.empty wD _ hBD.size
                    try rw [hw1]
                    try rw [hw1] at hS1
                    clear hw1 hb1
                    refine wpAnyH_ready (rs := [3, 9]) (by kernel_rfl) (by simp) ?_
                    refine (AllReadyH.cons rfl (fun K hK => ?_) (AllReadyH.cons rfl (fun K hK => ?_) AllReadyH.nil))
                    · obtain ⟨v3, w2, hr2, ho2, hg2, -⟩ := run_spreadI (ty := 25) (c := c5) hE1 (HIn.out _ (below_on HBR.out hB1)) (by simp; omega) hB1.size
                      have hB2 : Below wR.heap.size wR w2 := hB1.grown hg2 hB1.size (fun k hk => ownI_lows hE1 k hk)
                      have hV2 : OwnI w2 wR.heap.size v3 (idsA cs) := by simpa using ho2
                      refine step_run _ (by rfl) (.tmp 44) (.tmp 45) 25 (by rfl) _ _ (by rfl) (by rfl) hr2 ?_
                      refine hK.out _ _ ((hB2.cell (p := ⟨b, off + i * 2, none⟩) hbR).trans f1) (fun hS2 => ?_)
                      clear hK K
                      try simp only [Act.put, List.setIfInBounds_toArray, List.set_cons_zero, List.set_cons_succ]
                      clear hr2 hg2 ho2
                      refine wpAnyH_ready (rs := [9]) (by kernel_rfl) (by simp) ?_
                      refine (AllReadyH.cons rfl (fun K hK => ?_) AllReadyH.nil)
                      go_simp
                      refine hK.out _ _ (((hB2.alloc hB2.size _).cell (p := ⟨b, off + i * 2, none⟩) hbR).trans f1) (fun hS3 => ?_)
                      clear hK K
                      try simp only [Act.put, List.setIfInBounds_toArray, List.set_cons_zero, List.set_cons_succ]
                      obtain ⟨w3, hw3⟩ : ∃ w', World.alloc w2 (.cells #[.int .i64 x.id] 3) = w' := ⟨_, rfl⟩
                      have hB3 : Below wR.heap.size wR w3 := by rw [← hw3]; exact hB2.alloc hB2.size _
                      have hb3 : Below w2.heap.size w2 w3 := by rw [← hw3]; exact (Below.refl _ _).alloc (Nat.le_refl _) _
                      have hV3 := ownI_below hV2 hb3
                      have hX3 : OwnI w3 wR.heap.size (.slice (some ⟨w2.heap.size, 0, none⟩) 1 1) [x.id] := by rw [← hw3]; exact ownI_oneG w2 _ x.id hB2.size
                      try rw [hw3]
                      try rw [hw3] at hS3
                      clear hw3 hb3
                      refine wpAnyH_ready (rs := [10]) (by kernel_rfl) (by simp) ?_
                      refine (AllReadyH.cons rfl (fun K hK => ?_) AllReadyH.nil)
                      obtain ⟨v4, w4, hr4, ho4, hg4, -⟩ := run_spreadI (ty := 25) (c := 1) hV3 (ownI_at hX3) (by have h1 := (HIn.out _ HBR.out).1; omega) hB3.size
                      have hB4 : Below wR.heap.size wR w4 := hB3.grown hg4 hB3.size (fun k hk => ownI_lows hV3 k hk)
                      obtain ⟨A8, n8, c8, rfl, h8⟩ := ho4.ints
                      refine step_run _ (by rfl) (.tmp 46) (.tmp 52) 25 (by rfl) _ _ (by rfl) (by rfl) hr4 ?_
                      refine hK.out _ _ ((hB4.cell (p := ⟨b, off + i * 2, none⟩) hbR).trans f1) (fun hS4 => ?_)
                      clear hK K
                      try simp only [Act.put, List.setIfInBounds_toArray, List.set_cons_zero, List.set_cons_succ]
                      clear hr4 hg4
                      refine wpAnyH_ready (rs := [11]) (by kernel_rfl) (by simp) ?_
                      refine (AllReadyH.cons rfl (fun K hK => ?_) AllReadyH.nil)
                      go_simp
                      go_at_call 13
                      refine (HCall.out _ _ _ _ (below_on HBR.out hB4) h8 (by have h1 := h8.1; rw [List.length_append, List.length_singleton] at h1; have h2 := (HIn.out _ HBR.out).1; omega)).mono ?_
                      rintro e w5 ⟨⟨v5, rfl, ho⟩, hb5⟩
                      have hB5 : Below wR.heap.size wR w5 := below_on hB4 hb5
                      refine hK.out _ _ ((hB5.cell (p := ⟨b, off + i * 2, none⟩) hbR).trans f1) (fun hS5 => ?_)
                      clear hK K
                      try simp only [Act.put, List.setIfInBounds_toArray, List.set_cons_zero, List.set_cons_succ]
                      refine takeY 42 (i := 12) (v := ?vx8) rfl rfl (by kernel_rfl) (by kernel_rfl) (by kernel_rfl) (fun _ _ _ h => h) (by kernel_rfl) ?yx8 hS5 ?_
                      case yx8 =>
                        intro w' hw'; (try dsimp only at hw'); obtain q1 := hw'; go_simp; try with_reducible rfl
                      simp only [Act.put, List.setIfInBounds_toArray, List.set_cons_zero, List.set_cons_succ]
                      refine takeY 55 (i := 13) (v := ?vx9) rfl rfl (by kernel_rfl) (by kernel_rfl) (by kernel_rfl) (fun _ _ _ h => h) (by kernel_rfl) ?yx9 hS5 ?_
                      case yx9 =>
                        intro w' hw'; (try dsimp only at hw'); obtain q1 := hw'; go_simp; try with_reducible rfl
                      simp only [Act.put, List.setIfInBounds_toArray, List.set_cons_zero, List.set_cons_succ]
                      refine takeY 56 (i := 14) (v := ?vx10) rfl rfl (by kernel_rfl) (by kernel_rfl) (by kernel_rfl) (fun _ _ _ h => h) (by kernel_rfl) ?yx10 hS5 ?_
                      case yx10 =>
                        intro w' hw'; (try dsimp only at hw'); obtain q1 := hw'; go_simp; try with_reducible rfl
                      simp only [Act.put, List.setIfInBounds_toArray, List.set_cons_zero, List.set_cons_succ]
                      refine takeY 57 (i := 15) (v := ?vx11) rfl rfl (by kernel_rfl) (by kernel_rfl) (by kernel_rfl) (fun _ _ _ h => h) (by kernel_rfl) ?yx11 hS5 ?_
                      case yx11 =>
                        intro w' hw'; (try dsimp only at hw'); obtain q1 := hw'; go_simp; try with_reducible rfl
                      simp only [Act.put, List.setIfInBounds_toArray, List.set_cons_zero, List.set_cons_succ]
                      refine takeY 10 (i := 16) (v := ?vx12) rfl rfl (by kernel_rfl) (by kernel_rfl) (by kernel_rfl) (fun _ _ _ h => h) (by kernel_rfl) ?yx12 hS5 ?_
                      case yx12 =>
                        intro w' hw'; (try dsimp only at hw'); obtain q1 := hw'; go_simp; try with_reducible rfl
                      simp only [Act.put, List.setIfInBounds_toArray, List.set_cons_zero, List.set_cons_succ]
                      refine takeY 11 (i := 17) (v := ?vx13) rfl rfl (by kernel_rfl) (by kernel_rfl) (by kernel_rfl) (fun _ _ _ h => h) (by kernel_rfl) ?yx13 hS5 ?_
                      case yx13 =>
                        intro w' hw'; (try dsimp only at hw'); obtain q1 := hw'; go_simp; try with_reducible rfl
                      simp only [Act.put, List.setIfInBounds_toArray, List.set_cons_zero, List.set_cons_succ]
                      refine takeY 12 (i := 18) (v := ?vx14) rfl rfl (by kernel_rfl) (by kernel_rfl) (by kernel_rfl) (fun _ _ _ h => h) (by kernel_rfl) ?yx14 hS5 ?_
                      case yx14 =>
                        intro w' hw'; (try dsimp only at hw'); obtain q1 := hw'; go_simp; try with_reducible rfl
                      simp only [Act.put, List.setIfInBounds_toArray, List.set_cons_zero, List.set_cons_succ]
                      refine wpAnyH_done (by kernel_rfl) ?_ _
                      go_wp2
                      go_meet
                      exact ⟨rfl, rfl, hB5⟩
                    · go_simp
                      refine hK.out _ _ (((hB1.alloc hB1.size _).cell (p := ⟨b, off + i * 2, none⟩) hbR).trans f1) (fun hS6 => ?_)
                      clear hK K
                      try simp only [Act.put, List.setIfInBounds_toArray, List.set_cons_zero, List.set_cons_succ]
                      obtain ⟨w6, hw6⟩ : ∃ w', World.alloc w1 (.cells #[.int .i64 x.id] 3) = w' := ⟨_, rfl⟩
                      have hB6 : Below wR.heap.size wR w6 := by rw [← hw6]; exact hB1.alloc hB1.size _
                      have hb6 : Below w1.heap.size w1 w6 := by rw [← hw6]; exact (Below.refl _ _).alloc (Nat.le_refl _) _
                      have hE6 := ownI_below hE1 hb6
                      have hX6 : OwnI w6 wR.heap.size (.slice (some ⟨w1.heap.size, 0, none⟩) 1 1) [x.id] := by rw [← hw6]; exact ownI_oneG w1 _ x.id hB1.size
                      have hne : wD.heap.size ≠ w1.heap.size := by have h1 : wD.heap.size < w1.heap.size := ownI_tops hE1 _ rfl; omega
                      try rw [hw6]
                      try rw [hw6] at hS6
                      clear hw6 hb6
                      refine wpAnyH_ready (rs := [3]) (by kernel_rfl) (by simp) ?_
                      refine (AllReadyH.cons rfl (fun K hK => ?_) AllReadyH.nil)
                      obtain ⟨v3, w7, hr7, ho7, hg7, -⟩ := run_spreadI (ty := 25) (c := c5) hE6 (HIn.out _ (below_on HBR.out hB6)) (by simp; omega) hB6.size
                      have hB7 : Below wR.heap.size wR w7 := hB6.grown hg7 hB6.size (fun k hk => ownI_lows hE6 k hk)
                      have hV7 : OwnI w7 wR.heap.size v3 (idsA cs) := by simpa using ho7
                      have hX7 : OwnI w7 wR.heap.size (.slice (some ⟨w1.heap.size, 0, none⟩) 1 1) [x.id] := ownI_blocks hX6 fun k hk => hg7.block k (ownI_tops hX6 k hk) fun e => hne ((Option.some.inj e.symm).trans (Option.some.inj hk).symm)
                      refine step_run _ (by rfl) (.tmp 44) (.tmp 45) 25 (by rfl) _ _ (by rfl) (by rfl) hr7 ?_
                      refine hK.out _ _ ((hB7.cell (p := ⟨b, off + i * 2, none⟩) hbR).trans f1) (fun hS7 => ?_)
                      clear hK K
                      try simp only [Act.put, List.setIfInBounds_toArray, List.set_cons_zero, List.set_cons_succ]
                      clear hr7 hg7 ho7
                      refine wpAnyH_ready (rs := [10]) (by kernel_rfl) (by simp) ?_
                      refine (AllReadyH.cons rfl (fun K hK => ?_) AllReadyH.nil)
                      obtain ⟨v4, w8, hr8, ho8, hg8, -⟩ := run_spreadI (ty := 25) (c := 1) hV7 (ownI_at hX7) (by have h1 := (HIn.out _ HBR.out).1; omega) hB7.size
                      have hB8 : Below wR.heap.size wR w8 := hB7.grown hg8 hB7.size (fun k hk => ownI_lows hV7 k hk)
                      obtain ⟨A8, n8, c8, rfl, h8⟩ := ho8.ints
                      refine step_run _ (by rfl) (.tmp 46) (.tmp 52) 25 (by rfl) _ _ (by rfl) (by rfl) hr8 ?_
                      refine hK.out _ _ ((hB8.cell (p := ⟨b, off + i * 2, none⟩) hbR).trans f1) (fun hS8 => ?_)
                      clear hK K
                      try simp only [Act.put, List.setIfInBounds_toArray, List.set_cons_zero, List.set_cons_succ]
                      clear hr8 hg8
                      refine wpAnyH_ready (rs := [11]) (by kernel_rfl) (by simp) ?_
                      refine (AllReadyH.cons rfl (fun K hK => ?_) AllReadyH.nil)
                      go_simp
                      go_at_call 13
                      refine (HCall.out _ _ _ _ (below_on HBR.out hB8) h8 (by have h1 := h8.1; rw [List.length_append, List.length_singleton] at h1; have h2 := (HIn.out _ HBR.out).1; omega)).mono ?_
                      rintro e w9 ⟨⟨v5, rfl, ho⟩, hb9⟩
                      have hB9 : Below wR.heap.size wR w9 := below_on hB8 hb9
                      refine hK.out _ _ ((hB9.cell (p := ⟨b, off + i * 2, none⟩) hbR).trans f1) (fun hS9 => ?_)
                      clear hK K
                      try simp only [Act.put, List.setIfInBounds_toArray, List.set_cons_zero, List.set_cons_succ]
                      refine takeY 42 (i := 12) (v := ?vx15) rfl rfl (by kernel_rfl) (by kernel_rfl) (by kernel_rfl) (fun _ _ _ h => h) (by kernel_rfl) ?yx15 hS9 ?_
                      case yx15 =>
                        intro w' hw'; (try dsimp only at hw'); obtain q1 := hw'; go_simp; try with_reducible rfl
                      simp only [Act.put, List.setIfInBounds_toArray, List.set_cons_zero, List.set_cons_succ]
                      refine takeY 55 (i := 13) (v := ?vx16) rfl rfl (by kernel_rfl) (by kernel_rfl) (by kernel_rfl) (fun _ _ _ h => h) (by kernel_rfl) ?yx16 hS9 ?_
                      case yx16 =>
                        intro w' hw'; (try dsimp only at hw'); obtain q1 := hw'; go_simp; try with_reducible rfl
                      simp only [Act.put, List.setIfInBounds_toArray, List.set_cons_zero, List.set_cons_succ]
                      refine takeY 56 (i := 14) (v := ?vx17) rfl rfl (by kernel_rfl) (by kernel_rfl) (by kernel_rfl) (fun _ _ _ h => h) (by kernel_rfl) ?yx17 hS9 ?_
                      case yx17 =>
                        intro w' hw'; (try dsimp only at hw'); obtain q1 := hw'; go_simp; try with_reducible rfl
                      simp only [Act.put, List.setIfInBounds_toArray, List.set_cons_zero, List.set_cons_succ]
                      refine takeY 57 (i := 15) (v := ?vx18) rfl rfl (by kernel_rfl) (by kernel_rfl) (by kernel_rfl) (fun _ _ _ h => h) (by kernel_rfl) ?yx18 hS9 ?_
                      case yx18 =>
                        intro w' hw'; (try dsimp only at hw'); obtain q1 := hw'; go_simp; try with_reducible rfl
                      simp only [Act.put, List.setIfInBounds_toArray, List.set_cons_zero, List.set_cons_succ]
                      refine takeY 10 (i := 16) (v := ?vx19) rfl rfl (by kernel_rfl) (by kernel_rfl) (by kernel_rfl) (fun _ _ _ h => h) (by kernel_rfl) ?yx19 hS9 ?_
                      case yx19 =>
                        intro w' hw'; (try dsimp only at hw'); obtain q1 := hw'; go_simp; try with_reducible rfl
                      simp only [Act.put, List.setIfInBounds_toArray, List.set_cons_zero, List.set_cons_succ]
                      refine takeY 11 (i := 17) (v := ?vx20) rfl rfl (by kernel_rfl) (by kernel_rfl) (by kernel_rfl) (fun _ _ _ h => h) (by kernel_rfl) ?yx20 hS9 ?_
                      case yx20 =>
                        intro w' hw'; (try dsimp only at hw'); obtain q1 := hw'; go_simp; try with_reducible rfl
                      simp only [Act.put, List.setIfInBounds_toArray, List.set_cons_zero, List.set_cons_succ]
                      refine takeY 12 (i := 18) (v := ?vx21) rfl rfl (by kernel_rfl) (by kernel_rfl) (by kernel_rfl) (fun _ _ _ h => h) (by kernel_rfl) ?yx21 hS9 ?_
                      case yx21 =>
                        intro w' hw'; (try dsimp only at hw'); obtain q1 := hw'; go_simp; try with_reducible rfl
                      simp only [Act.put, List.setIfInBounds_toArray, List.set_cons_zero, List.set_cons_succ]
                      refine wpAnyH_done (by kernel_rfl) ?_ _
                      go_wp2
                      go_meet
                      exact ⟨rfl, rfl, hB9⟩
                  · go_simp
                    refine hK.out _ _ (((hBD.alloc hBD.size _).cell (p := ⟨b, off + i * 2, none⟩) hbR).trans f1) (fun hS10 => ?_)
                    clear hK K
                    try simp only [Act.put, List.setIfInBounds_toArray, List.set_cons_zero, List.set_cons_succ]
                    obtain ⟨w10, hw10⟩ : ∃ w', World.alloc wD (.cells #[.int .i64 x.id] 3) = w' := ⟨_, rfl⟩
                    have hB10 : Below wR.heap.size wR w10 := by rw [← hw10]; exact hBD.alloc hBD.size _
                    have hb10 : Below wD.heap.size wD w10 := by rw [← hw10]; exact (Below.refl _ _).alloc (Nat.le_refl _) _
                    have hX10 : OwnI w10 wR.heap.size (.slice (some ⟨wD.heap.size, 0, none⟩) 1 1) [x.id] := by rw [← hw10]; exact ownI_oneG wD _ x.id hBD.size
                    try rw [hw10]
                    try rw [hw10] at hS10
                    clear hw10 hb10
                    refine wpAnyH_ready (rs := [1]) (by kernel_rfl) (by simp) ?_
                    refine (AllReadyH.cons rfl (fun K hK => ?_) AllReadyH.nil)
                    go_simp
                    refine hK.out _ _ (((hB10.alloc hB10.size _).cell (p := ⟨b, off + i * 2, none⟩) hbR).trans f1) (fun hS11 => ?_)
                    clear hK K
                    try simp only [Act.put, List.setIfInBounds_toArray, List.set_cons_zero, List.set_cons_succ]
                    obtain ⟨w11, hw11⟩ : ∃ w', World.alloc w10 (.cells #[] 3) = w' := ⟨_, rfl⟩
                    have hB11 : Below wR.heap.size wR w11 := by rw [← hw11]; exact hB10.alloc hB10.size _
                    have hb11 : Below w10.heap.size w10 w11 := by rw [← hw11]; exact (Below.refl _ _).alloc (Nat.le_refl _) _
                    have hX11 := ownI_below hX10 hb11
                    have hE11 : OwnI w11 wR.heap.size (.slice (some ⟨w10.heap.size, 0, none⟩) 0 0) [] := by rw [← hw11]; exact OwnI.empty w10 _ hB10.size
                    have hne : w10.heap.size ≠ wD.heap.size := by have h1 : wD.heap.size < w10.heap.size := ownI_tops hX10 _ rfl; omega
                    try rw [hw11]
                    try rw [hw11] at hS11
                    clear hw11 hb11
                    refine wpAnyH_ready (rs := [3]) (by kernel_rfl) (by simp) ?_
                    refine (AllReadyH.cons rfl (fun K hK => ?_) AllReadyH.nil)
                    obtain ⟨v3, w12, hr12, ho12, hg12, -⟩ := run_spreadI (ty := 25) (c := c5) hE11 (HIn.out _ (below_on HBR.out hB11)) (by simp; omega) hB11.size
                    have hB12 : Below wR.heap.size wR w12 := hB11.grown hg12 hB11.size (fun k hk => ownI_lows hE11 k hk)
                    have hV12 : OwnI w12 wR.heap.size v3 (idsA cs) := by simpa using ho12
                    have hX12 : OwnI w12 wR.heap.size (.slice (some ⟨wD.heap.size, 0, none⟩) 1 1) [x.id] := ownI_blocks hX11 fun k hk => hg12.block k (ownI_tops hX11 k hk) fun e => hne ((Option.some.inj e.symm).trans (Option.some.inj hk).symm)
                    refine step_run _ (by rfl) (.tmp 44) (.tmp 45) 25 (by rfl) _ _ (by rfl) (by rfl) hr12 ?_
                    refine hK.out _ _ ((hB12.cell (p := ⟨b, off + i * 2, none⟩) hbR).trans f1) (fun hS12 => ?_)
                    clear hK K
                    try simp only [Act.put, List.setIfInBounds_toArray, List.set_cons_zero, List.set_cons_succ]
                    clear hr12 hg12 ho12
                    refine wpAnyH_ready (rs := [10]) (by kernel_rfl) (by simp) ?_
                    refine (AllReadyH.cons rfl (fun K hK => ?_) AllReadyH.nil)
                    obtain ⟨v4, w13, hr13, ho13, hg13, -⟩ := run_spreadI (ty := 25) (c := 1) hV12 (ownI_at hX12) (by have h1 := (HIn.out _ HBR.out).1; omega) hB12.size
                    have hB13 : Below wR.heap.size wR w13 := hB12.grown hg13 hB12.size (fun k hk => ownI_lows hV12 k hk)
                    obtain ⟨A8, n8, c8, rfl, h8⟩ := ho13.ints
                    refine step_run _ (by rfl) (.tmp 46) (.tmp 52) 25 (by rfl) _ _ (by rfl) (by rfl) hr13 ?_
                    refine hK.out _ _ ((hB13.cell (p := ⟨b, off + i * 2, none⟩) hbR).trans f1) (fun hS13 => ?_)
                    clear hK K
                    try simp only [Act.put, List.setIfInBounds_toArray, List.set_cons_zero, List.set_cons_succ]
                    clear hr13 hg13
                    refine wpAnyH_ready (rs := [11]) (by kernel_rfl) (by simp) ?_
                    refine (AllReadyH.cons rfl (fun K hK => ?_) AllReadyH.nil)
                    go_simp
                    go_at_call 13
                    refine (HCall.out _ _ _ _ (below_on HBR.out hB13) h8 (by have h1 := h8.1; rw [List.length_append, List.length_singleton] at h1; have h2 := (HIn.out _ HBR.out).1; omega)).mono ?_
                    rintro e w14 ⟨⟨v5, rfl, ho⟩, hb14⟩
                    have hB14 : Below wR.heap.size wR w14 := below_on hB13 hb14
                    refine hK.out _ _ ((hB14.cell (p := ⟨b, off + i * 2, none⟩) hbR).trans f1) (fun hS14 => ?_)
                    clear hK K
                    try simp only [Act.put, List.setIfInBounds_toArray, List.set_cons_zero, List.set_cons_succ]
                    refine takeY 42 (i := 12) (v := ?vx22) rfl rfl (by kernel_rfl) (by kernel_rfl) (by kernel_rfl) (fun _ _ _ h => h) (by kernel_rfl) ?yx22 hS14 ?_
                    case yx22 =>
                      intro w' hw'; (try dsimp only at hw'); obtain q1 := hw'; go_simp; try with_reducible rfl
                    simp only [Act.put, List.setIfInBounds_toArray, List.set_cons_zero, List.set_cons_succ]
                    refine takeY 55 (i := 13) (v := ?vx23) rfl rfl (by kernel_rfl) (by kernel_rfl) (by kernel_rfl) (fun _ _ _ h => h) (by kernel_rfl) ?yx23 hS14 ?_
                    case yx23 =>
                      intro w' hw'; (try dsimp only at hw'); obtain q1 := hw'; go_simp; try with_reducible rfl
                    simp only [Act.put, List.setIfInBounds_toArray, List.set_cons_zero, List.set_cons_succ]
                    refine takeY 56 (i := 14) (v := ?vx24) rfl rfl (by kernel_rfl) (by kernel_rfl) (by kernel_rfl) (fun _ _ _ h => h) (by kernel_rfl) ?yx24 hS14 ?_
                    case yx24 =>
                      intro w' hw'; (try dsimp only at hw'); obtain q1 := hw'; go_simp; try with_reducible rfl
                    simp only [Act.put, List.setIfInBounds_toArray, List.set_cons_zero, List.set_cons_succ]
                    refine takeY 57 (i := 15) (v := ?vx25) rfl rfl (by kernel_rfl) (by kernel_rfl) (by kernel_rfl) (fun _ _ _ h => h) (by kernel_rfl) ?yx25 hS14 ?_
                    case yx25 =>
                      intro w' hw'; (try dsimp only at hw'); obtain q1 := hw'; go_simp; try with_reducible rfl
                    simp only [Act.put, List.setIfInBounds_toArray, List.set_cons_zero, List.set_cons_succ]
                    refine takeY 10 (i := 16) (v := ?vx26) rfl rfl (by kernel_rfl) (by kernel_rfl) (by kernel_rfl) (fun _ _ _ h => h) (by kernel_rfl) ?yx26 hS14 ?_
                    case yx26 =>
                      intro w' hw'; (try dsimp only at hw'); obtain q1 := hw'; go_simp; try with_reducible rfl
                    simp only [Act.put, List.setIfInBounds_toArray, List.set_cons_zero, List.set_cons_succ]
                    refine takeY 11 (i := 17) (v := ?vx27) rfl rfl (by kernel_rfl) (by kernel_rfl) (by kernel_rfl) (fun _ _ _ h => h) (by kernel_rfl) ?yx27 hS14 ?_
                    case yx27 =>
                      intro w' hw'; (try dsimp only at hw'); obtain q1 := hw'; go_simp; try with_reducible rfl
                    simp only [Act.put, List.setIfInBounds_toArray, List.set_cons_zero, List.set_cons_succ]
                    refine takeY 12 (i := 18) (v := ?vx28) rfl rfl (by kernel_rfl) (by kernel_rfl) (by kernel_rfl) (fun _ _ _ h => h) (by kernel_rfl) ?yx28 hS14 ?_
                    case yx28 =>
                      intro w' hw'; (try dsimp only at hw'); obtain q1 := hw'; go_simp; try with_reducible rfl
                    simp only [Act.put, List.setIfInBounds_toArray, List.set_cons_zero, List.set_cons_succ]
                    refine wpAnyH_done (by kernel_rfl) ?_ _
                    go_wp2
                    go_meet
                    exact ⟨rfl, rfl, hB14⟩
                case rest =>
                obtain ⟨rfl, rfl, hb9⟩ := hcut
                rename World => w9
                have HB9 := Lib.hid (below_on HBR.out hb9)
                have g0 := (hb9.cell (p := ⟨b, off + i * 2, none⟩) hbR).trans f1
                have hps : pickF (greedF ds cs) (restD cs (ds.take (i + 1))) = pickS (greedF ds cs) (pickF (greedF ds cs) (restD cs (ds.take i))) x.dat := by rw [HSn.out, pickF_snoc]
                have HPq := Lib.hid hps
                clear hb9 f1 hbR HCall hps
                obtain ⟨o, ho⟩ : ∃ o, pickF (greedF ds cs) (restD cs (ds.take i)) = o := ⟨_, rfl⟩
                have HPo := HP
                rw [ho] at HPo HPq
                rcases o with _ | y
                · have hpk : pick = -1 := by rcases HPo.out with ⟨_, h, _⟩ | ⟨z, h, _⟩ <;> first | exact h | cases h
                  subst hpk
                  have HNew : Hid (PickR (greedF ds cs) (pickF (greedF ds cs) (restD cs (ds.take (i + 1)))) x.id N E) := Lib.hid (by
                    rw [HPq.out, HNE.out.1, HNE.out.2]
                    exact PickR.first x.dat HPo.out)
                  clear ho
                  go_wp2
                  go_roundw
                  case rel => exact ⟨i + 1, x.id, N, E, by omega, by go_num, rfl, rfl, rfl, HNew.out, HB9.out⟩
                  case measure => simp [intOf]; omega
                · have hpr : 0 ≤ pick ∧ (0 ≤ num ∧ num ≤ 100 ∧ 0 ≤ den ∧ den ≤ 100) := by
                    rcases HPo.out with ⟨h, _⟩ | ⟨z, h, h1, h2, h3⟩
                    · cases h
                    · have hz : z ∈ ds := by
                        have h5 := pickF_mem _ _ (ho.trans h)
                        exact List.mem_of_mem_take (restD_mem.1 h5).1
                      have h6 := (HA.out.1 z hz).2.1
                      have h7 := reg_range (ds := ds) (cs := cs ++ [z]) (fun d hd => by
                        rcases List.mem_append.1 hd with h | h
                        · exact HSub.out d h
                        · obtain rfl := List.mem_singleton.1 h; exact hz)
                      have e2 : num = (reg ds (cs ++ [z])).num := h2
                      have e3 : den = (reg ds (cs ++ [z])).den := h3
                      omega
                  have hpn : ¬ pick < 0 := by omega
                  have m1 := mul_hundred (a := N) (b := den) (by omega) (by omega) (by omega) (by omega)
                  have m2 := mul_hundred (a := num) (b := E) (by omega) (by omega) (by omega) (by omega)
                  by_cases hless : N * den < num * E
                  · have HNew : Hid (PickR (greedF ds cs) (pickF (greedF ds cs) (restD cs (ds.take (i + 1)))) x.id N E) := Lib.hid (by
                      have h := HPo.out.yes x.dat (by rw [← HNE.out.1, ← HNE.out.2]; exact hless)
                      rw [← HPq.out, ← HNE.out.1, ← HNE.out.2] at h
                      exact h)
                    clear ho
                    go_wp2
                    go_roundw
                    case rel => exact ⟨i + 1, x.id, N, E, by omega, by go_num, rfl, rfl, rfl, HNew.out, HB9.out⟩
                    case measure => simp [intOf]; omega
                  · have HNew : Hid (PickR (greedF ds cs) (pickF (greedF ds cs) (restD cs (ds.take (i + 1)))) pick num den) := Lib.hid (by
                      have h := HPo.out.no x.dat (by rw [← HNE.out.1, ← HNE.out.2]; exact hless)
                      rw [← HPq.out] at h
                      exact h)
                    clear ho
                    go_wp2
                    go_roundw
                    case rel => exact ⟨i + 1, pick, num, den, by omega, by go_num, rfl, rfl, rfl, HNew.out, HB9.out⟩
                    case measure => simp [intOf]; omega
              · have HSn : Hid (restD cs (ds.take (i + 1)) = restD cs (ds.take i)) := Lib.hid (HRs.out.1 (HQ.out.1 rfl))
                go_wp2
                go_roundw
                case rel => exact ⟨i + 1, pick, num, den, by omega, by go_num, rfl, rfl, rfl, by rw [HSn.out]; exact HP.out, HBi.out⟩
                case measure => simp [intOf]; omega
            · obtain rfl : i = n := by omega
              have hfull : ds.take i = ds := List.take_of_length_le (by rw [HDl.out]; exact Nat.le_refl _)
              have hp := HP.out
              rw [hfull] at hp
              obtain ⟨y, hy⟩ := greedy_pick HNd.out (k := n5) (by rw [HDl.out]; exact h2)
              rw [HCs.out] at hy
              have hpk : pick = y.1 := by
                rcases hp with ⟨h, _⟩ | ⟨z, h, h1, _⟩
                · rw [hy] at h; cases h
                · rw [hy] at h
                  rw [h1, Option.some.inj h]
              have HNx : Hid (greedy ds (n5 + 1) = cs ++ [y]) := Lib.hid (by
                have h := greedy_next (ds := ds) (k := n5) (x := y) (by rw [HCs.out]; exact hy)
                rw [HCs.out] at h
                exact h)
              have HOr := Lib.hid (ownI_below HO2.out HBi.out)
              have HBr := Lib.hid (below_on HB1.out HBi.out)
              have hks1 : n5 + 1 ≤ size.toNat := by omega
              have hleq : (idsA cs).length = n5 := by have h := (ownI_at HO2.out).1; exact h
              have HLe : Hid (((idsA cs).length + [pick].length) * 8 ≤ 140737488355328) := Lib.hid (by rw [hleq]; simp; omega)
              have HPy := Lib.hid hpk
              clear hp hy hpk hbel hfull hleq
              go_wp2_with (at_builtin; refine wp_appI wr (by rfl) (.tmp 76) (.tmp 78) (by rfl) w.heap.size _ _ (by rfl) HOr.out _ [pick] (by rfl) 1 1 rfl (by rfl) HLe.out HBr.out.size ?_)
              rintro v' w5 ho5 hb5
              have HO5 : Hid (OwnI w5 w.heap.size v' (idsA (greedy ds (n5 + 1)))) := Lib.hid (by
                rw [HNx.out]
                have e : idsA (cs ++ [y]) = idsA cs ++ [pick] := by rw [HPy.out]; unfold idsA; rw [List.map_append]; rfl
                rw [e]
                exact ho5)
              have HB5 := Lib.hid (HBr.out.trans hb5)
              obtain ⟨A9, n9, c9, hv9, hi9⟩ := HO5.out.ints
              have hn9 : n9 = n5 + 1 := by rw [← hi9.1]; exact HLk.out (n5 + 1) (by omega) (fun h => by cases h)
              have HV9 := Lib.hid hv9
              have HN9 := Lib.hid hn9
              clear ho5 hb5 hi9 hv9 hn9
              go_wp2
              go_roundw
              case rel => exact ⟨n5 + 1, v', rfl, hks1, by omega, (fun h => by cases h), HO5.out, HB5.out⟩
              case measure => rw [HV9.out]; show i - n9 < i - n5; rw [HN9.out]; omega
      · have h2' : ¬ (n5 : Int) < (n : Int) := by omega
        obtain rfl := HEx.out n5 hks hkn HK0.out (.inl fun h => h2 h.2)
        go_wp2
        go_ret
        exact ⟨⟨_, rfl, HO.out⟩, HB.out⟩
    · obtain rfl := HEx.out n5 hks hkn HK0.out (.inl fun h => h1 h.1)
      go_wp2
      go_ret
      exact ⟨⟨_, rfl, HO.out⟩, HB.out⟩
end Go.Proofs.Ytjjlhiaghjipcaa.num
