/-
  The program's Linearize: contract.
-/
import Derived.Test.YtddpfnidnkhfpaaPairFree
import Derived.Test.YtddpfnidnkhfpaaPairMarkI
namespace Go.Proofs.Ytddpfnidnkhfpaa.num
open Go.RowKit Go.Maps
set_option linter.unusedVariables false

/-- The map of those that wait, behind the first j of the filling. -/
def fillW (M : Int → Option Nat) (j : Nat) (v : Int) : Option (Option Nat) := if 0 ≤ v ∧ v < j then some (M v) else none
theorem fillW_step (M : Int → Option Nat) (j : Nat) (v : Int) : (if v = (j : Int) then some (refLit (M j)) else (fillW M j v).map refLit) = (fillW M (j + 1) v).map refLit := by
  unfold fillW
  by_cases e : v = (j : Int)
  · subst e
    rw [if_pos rfl, if_pos (by omega)]
    rfl
  · rw [if_neg e]
    by_cases h : 0 ≤ v ∧ v < j
    · rw [if_pos h, if_pos (by omega)]
    · rw [if_neg h, if_neg (by omega)]
/-- The map of those that wait when out is laid down. -/
def waitW (M : Int → Option Nat) (out : List Int) (v : Int) : Option (Option Nat) := if (0 ≤ v ∧ v ≤ 9) ∧ v ∉ out then some (M v) else none
theorem waitW_start (M : Int → Option Nat) (v : Int) : fillW M 10 v = waitW M [] v := by
  unfold fillW waitW
  by_cases h : 0 ≤ v ∧ v < ((10 : Nat) : Int)
  · rw [if_pos h, if_pos ⟨by omega, by simp⟩]
  · rw [if_neg h, if_neg (fun h' => h (by omega))]
theorem waitW_some {M : Int → Option Nat} {out : List Int} {v : Int} {o : Option Nat} (h : waitW M out v = some o) : InR v ∧ v ∉ out ∧ o = M v := by
  unfold waitW at h
  split at h
  · rename_i h'
    exact ⟨h'.1, h'.2, (Option.some.inj h).symm⟩
  · cases h
theorem waitW_of {M : Int → Option Nat} {out : List Int} {v : Int} (h : InR v) (ho : v ∉ out) : waitW M out v = some (M v) := if_pos ⟨h, ho⟩
theorem waitW_del (M : Int → Option Nat) (out : List Int) (r v : Int) : (if v = r then none else (waitW M out v).map refLit) = (waitW M (out ++ [r]) v).map refLit := by
  unfold waitW
  by_cases e : v = r
  · subst e
    rw [if_pos rfl, if_neg (fun h => h.2 (by simp))]
    rfl
  · rw [if_neg e]
    by_cases h : (0 ≤ v ∧ v ≤ 9) ∧ v ∉ out
    · rw [if_pos h, if_pos ⟨h.1, by simp [h.2, e]⟩]
    · rw [if_neg h, if_neg (fun h' => h ⟨h'.1, fun hm => h'.2 (List.mem_append_left _ hm)⟩)]

/-- What v still waits for. -/
def waitS (ps : List (Int × Int)) (out : List Int) (v : Int) : Int → Bool := fun a => rb ps a v && !out.contains a
theorem next_of_min {ps : List (Int × Int)} (hg : Good ps) {M : Int → Option Nat} {out : List Int} {r : Int} (hn : ∃ v, NextV ps out v) (h : MinUp (waitW M out) (waitS ps out) (fun _ => false) r) : NextV ps out r := by
  obtain ⟨v, hv⟩ := hn
  have hfree : ∀ u, InR u → freeB ps out u = true → r ≤ u := fun u hu hf => by
    obtain ⟨h1, h2⟩ := (freeB_iff hg).1 hf
    refine h.le u _ (waitW_of hu h1) rfl fun a _ => ?_
    unfold waitS
    cases e : rb ps a u
    · rfl
    · have := h2 a ((rb_iff _ _ _).1 e)
      simp [this]
  have hle := hfree v hv.1 hv.2.1
  have hge : v ≤ r := by
    rcases h.is with e | ⟨o, ho, he⟩
    · have := hv.1.2; omega
    · obtain ⟨h1, h2, _⟩ := waitW_some ho
      refine hv.2.2 r h1 ((freeB_iff hg).2 ⟨h2, fun a ra => ?_⟩)
      have := he a (inR_wf (reach_rng hg.rng ra).1)
      unfold waitS at this
      rw [(rb_iff _ _ _).2 ra] at this
      simpa using this
  obtain rfl : v = r := by omega
  exact hv

/-- What does not turn in the loop: the sets, the map and where the order's rows begin. -/
structure LinK (ps : List (Int × Int)) (M : Int → Option Nat) (F b : Nat) (Lo : Nat) : Prop where
  none : ∀ v, M v = none → ∀ a, rb ps a v = false
  ends : ∀ v z, M v = some z → Lo ≤ z ∧ z ≠ b ∧ z < F
  inj : ∀ v v' x, M v = some x → M v' = some x → v = v'
  bF : b < F
  bLo : Lo ≤ b
/-- A round of the loop begins: out is laid down. -/
structure LinSt (ps : List (Int × Int)) (M : Int → Option Nat) (F b n : Nat) (w : World) (out : List Int) (v : Value) : Prop where
  wait : OutAt w b 10 (waitW M out)
  sets : ∀ u z, u ∉ out → M u = some z → SetAt w z n (waitS ps out u)
  own : OwnI w F v out
  sz : F ≤ w.heap.size
/-- r is laid down, and being deleted: L are the values still to come. -/
structure DelSt (ps : List (Int × Int)) (M : Int → Option Nat) (F n : Nat) (w : World) (out : List Int) (r : Int) (v : Value) (L : Int → Bool) : Prop where
  sets : ∀ u z, u ∉ out ++ [r] → M u = some z → SetAt w z n (fun a => waitS ps out u a && (L u || !(a == r)))
  own : OwnI w F v (out ++ [r])
  sz : F ≤ w.heap.size
theorem ownI_kept {w w' : World} {F : Nat} {v : Value} {l : List Int} {row : Option Nat} (h : OwnI w F v l) (hg : w.grownBy w' row) (hr : ∀ k, row = some k → k < F ∨ w.heap.size ≤ k) : OwnI w' F v l :=
  ownI_blocks h fun k hk => hg.block k (ownI_tops h k hk) fun e => by
    have h1 := ownI_lows h k hk
    have h2 := ownI_tops h k hk
    have := hr k e.symm
    omega
theorem LinSt.kept {ps : List (Int × Int)} {M : Int → Option Nat} {F b n Lo : Nat} {w w' : World} {out : List Int} {v : Value} (h : LinSt ps M F b n w out v) (hg : w.grownBy w' none) : LinSt ps M F b n w' out v :=
  ⟨MapAt.kept h.wait hg (by simp), fun u z hu hz => MapAt.kept (h.sets u z hu hz) hg (by simp), ownI_kept h.own hg (fun k hk => by cases hk), Nat.le_trans h.sz hg.size⟩
theorem LinSt.opt {ps : List (Int × Int)} {M : Int → Option Nat} {F b n Lo : Nat} {w : World} {out : List Int} {v : Value} (h : LinSt ps M F b n w out v) (k : LinK ps M F b Lo) (u : Int) (o : Option Nat) (hu : waitW M out u = some o) : InR u ∧ OptSet w o n (waitS ps out u) := by
  obtain ⟨h1, h2, rfl⟩ := waitW_some hu
  refine ⟨h1, ?_⟩
  cases e : M u with
  | none => exact fun a => by unfold waitS; rw [k.none u e a]; rfl
  | some z => exact h.sets u z h2 e
theorem waitS_snoc (ps : List (Int × Int)) (out : List Int) (r u a : Int) : (waitS ps out u a && !(a == r)) = waitS ps (out ++ [r]) u a := by
  unfold waitS
  cases rb ps a u
  · rfl
  · by_cases e : a = r
    · subst e; simp
    · simp [e]
theorem DelSt.fin {ps : List (Int × Int)} {M : Int → Option Nat} {F b n : Nat} {w : World} {out : List Int} {r : Int} {v : Value} {L : Int → Bool} (h : DelSt ps M F n w out r v L) (hl : ∀ u, L u = false) (hw : OutAt w b 10 (waitW M (out ++ [r]))) : LinSt ps M F b n w (out ++ [r]) v :=
  ⟨hw, fun u z hu hz => (h.sets u z hu hz).congr fun a _ => by rw [hl u, Bool.false_or]; exact waitS_snoc _ _ _ _ _, h.own, h.sz⟩
theorem DelSt.skip {ps : List (Int × Int)} {M : Int → Option Nat} {F b n Lo g : Nat} {w w' : World} {out : List Int} {r x : Int} {v : Value} {L : Int → Bool} (h : DelSt ps M F n w out r v L) (k : LinK ps M F b Lo) (hx : M x = none) (hg : w.grownBy w' (some g)) (hF : F ≤ g) (hgr : ∀ i, v.ownBlock = some i → i ≠ g) : DelSt ps M F n w' out r v (fun u => L u && !(u == x)) :=
  ⟨fun u z hu hz => by
    have hux : u ≠ x := fun e => by rw [e, hx] at hz; cases hz
    have e' : (u == x) = false := by simpa using hux
    refine MapAt.congr (MapAt.kept (h.sets u z hu hz) hg (fun e => by have := Option.some.inj e; have := (k.ends u z hz).2.2; omega)) fun a _ => bit_congr (by simp [e']),
    ownI_blocks h.own fun i hi => hg.block i (ownI_tops h.own i hi) (fun e => hgr i hi (Option.some.inj e)), Nat.le_trans h.sz hg.size⟩
theorem DelSt.take {ps : List (Int × Int)} {M : Int → Option Nat} {F b n Lo z : Nat} {w w' : World} {out : List Int} {r x : Int} {v : Value} {L : Int → Bool} (h : DelSt ps M F n w out r v L) (k : LinK ps M F b Lo) (hx : M x = some z) (hLx : L x = true) (hxo : x ∉ out ++ [r]) (hg : w.grownBy w' (some z))
    (hz : SetAt w' z n (fun a => if a = r then false else waitS ps out x a)) : DelSt ps M F n w' out r v (fun u => L u && !(u == x)) :=
  ⟨fun u z' hu hz' => by
    by_cases e : u = x
    · subst e
      obtain rfl : z = z' := Option.some.inj (hx.symm.trans hz')
      refine hz.congr fun a _ => ?_
      by_cases e : a = r
      · subst e; simp
      · simp [e]
    · have e' : (u == x) = false := by simpa using e
      have hzz : z' ≠ z := fun e2 => e (k.inj u x z' hz' (e2 ▸ hx))
      refine MapAt.congr (MapAt.kept (h.sets u z' hu hz') hg (fun e => hzz (Option.some.inj e))) fun a _ => bit_congr (by simp [e']),
    ownI_kept h.own hg (fun i hi => by cases hi; exact .inl (k.ends x z hx).2.2), Nat.le_trans h.sz hg.size⟩

theorem OwnI_low {w : World} {B B' : Nat} {v : Value} {l : List Int} (h : OwnI w B v l) (hB : B' ≤ B) : OwnI w B' v l :=
  ⟨h.1, h.2.imp id fun ⟨g, cap, cur, h1, h2, h3⟩ => ⟨g, cap, cur, h1, Nat.le_trans hB h2, h3⟩⟩

set_option maxHeartbeats 4000000 in
theorem iLinearize (w : World) (B : Nat) (A : Option Addr) (n c : Nat) (ps : List (Int × Int)) (hi : Pairs w B A n ps) (hB : B ≤ w.heap.size) (hn : n ≤ 1048576) (q : Bool) (hq : q = true ↔ OkP ps) :
    Calls Try.prog 17 #[.slice A n c] w fun e w' => (∃ v out, e = .returned v ∧ OwnI w' w.heap.size v out ∧ LinP ps q out) ∧ Below w.heap.size w w' := by
  have HQ := Lib.hid hq
  go_enter Try.func17, Try.ntmps17
  go_wp2_with fail
  refine (above_of w B A n c ps hi hB hn q hq).mono ?_
  rintro e w1 ⟨⟨o, rfl, hab⟩, hb1⟩
  have HB1 := Lib.hid hb1
  have HAb := Lib.hid hab
  clear hab hb1 hi hq
  cases q
  · go_wp2
    go_ret
    exact ⟨⟨_, [], rfl, ownI_nil _ _, (fun h => by cases h), fun _ => rfl⟩, HB1.out⟩
  · obtain ⟨b0, n0, M, rfl, hn0, hs⟩ := HAb.out.2 rfl
    have HS := Lib.hid hs
    have HG := Lib.hid (HQ.out.1 rfl).1
    have hmm := @run_makeMap Try.prog
    clear hs HAb HQ
    go_wp2
    clear hmm
    go_loopw [19] (fun i wr => ∃ j : Nat, j ≤ 10 ∧ i = .int .i64 j ∧ OutAt wr w1.heap.size j (fillW M j) ∧ w1.grownBy wr none) (fun i _ => 10 - (intOf i).toNat)
    case atStart =>
      refine ⟨0, by decide, rfl, (OutAt.made w1).congr fun v _ => ?_, World.grownBy_alloc w1 _ _⟩
      unfold fillW
      rw [if_neg (by omega)]
    case round =>
      obtain ⟨j, hj, rfl, hout, hgw⟩ := hrel
      have HGw := Lib.hid hgw
      by_cases hlt : j < 10
      · have e1 := OutAt.look (MapAt.kept HS.out.out hgw (by simp)) (j : Int) (nat_wf hj)
        rw [elt_some] at e1
        go_wp2_with (first
          | (at_mapUpdate; refine wp_put _ rfl _ _ _ 50 rfl keyInt Try.underlying3 Try.underlying50 rfl hout (by unfold maxLen; omega) (j : Int) rfl (nat_wf hj) _ rfl (refLit (M j)) [] (refElem_map _) ?_; intro w2 hout2 hg2 hs2)
          | go_in)
        try go_frame
        go_roundw
        case rel => exact ⟨j + 1, by omega, by go_num, MapAt.congr hout2 fun v _ => fillW_step M j v, HGw.out.andThen hg2 (fun i hi => .inl (by cases hi; exact Nat.le_refl _))⟩
        case measure => simp [intOf]; omega
      · have hj10 : j = 10 := by omega
        have hout : OutAt wr w1.heap.size 10 (fillW M 10) := by subst hj10; exact hout
        have hd : decide ((j : Int) < 10) = false := by simp; omega
        have hFw := hgw.size
        have hbF := MapAt.lt hout
        have HK : Hid (LinK ps M wr.heap.size w1.heap.size w.heap.size) := Lib.hid ⟨fun v hv a => HS.out.none hv a, fun v z hz => by
            obtain ⟨h1, h2, h3⟩ := HS.out.sets v z hz
            have := MapAt.lt h3
            exact ⟨h1, by omega, by omega⟩, HS.out.inj, hbF, HB1.out.size⟩
        have HS0 : Hid (LinSt ps M wr.heap.size w1.heap.size n0 wr [] (.slice none 0 0)) := Lib.hid ⟨MapAt.congr hout fun v _ => by rw [waitW_start], fun u z _ hz => (SetAt.congr (MapAt.kept (HS.out.sets u z hz).2.2 hgw (by simp)) fun a _ => by simp [waitS]), ownI_nil _ _, Nat.le_refl _⟩
        have HB2 := Lib.hid (HB1.out.trans (((Below.refl w1.heap.size w1).grown hgw (Nat.le_refl _) (fun k hk => by cases hk)).mono HB1.out.size))
        obtain ⟨b, hb⟩ : ∃ b, b = w1.heap.size := ⟨_, rfl⟩
        obtain ⟨F, hF⟩ : ∃ F, F = wr.heap.size := ⟨_, rfl⟩
        rw [← hb, ← hF] at HK HS0
        rw [← hb]
        clear hout hgw hFw hbF HGw hb hF HS HB1
        go_wp2
        clear hd hj10
        go_loopw [7, 28] (fun v i wr => ∃ (k : Nat) (out : List Int), k ≤ 10 ∧ i = .int .i64 k ∧ Lin ps k out ∧ LinSt ps M F b n0 wr out v ∧ Below w.heap.size w wr) (fun _ i _ => 10 - (intOf i).toNat)
        case atStart => exact ⟨0, [], by decide, rfl, .nil, HS0.out, HB2.out⟩
        case round =>
          clear HS0 HB2
          obtain ⟨k, out, hk, rfl, hlin, hst, hbel⟩ := hrel
          have HL := Lib.hid hlin
          have HSt := Lib.hid hst
          have HBe := Lib.hid hbel
          clear hlin hst hbel
          by_cases hkt : k < 10
          · go_wp2_with fail
            refine (free_of _ b 10 n0 (waitW M out) (waitS ps out) HSt.out.wait (HSt.out.opt HK.out)).mono ?_
            rintro e w2 ⟨⟨r, rfl, hmin⟩, hg2⟩
            have hnext := next_of_min HG.out (HL.out.next HG.out hkt) hmin
            have HN := Lib.hid hnext
            have HSt2 := Lib.hid (HSt.out.kept (Lo := w.heap.size) hg2)
            have HB2 := Lib.hid (HBe.out.grown hg2 HBe.out.size (fun k hk => by cases hk))
            have H4 : Hid ((out.length + [r].length) * 8 ≤ 140737488355328) := Lib.hid (by
              have := HL.out.len
              simp only [List.length_cons, List.length_nil]
              omega)
            clear hmin hg2 hnext HSt HBe
            go_wp2_with (at_builtin; refine wp_appI _ (by rfl) (.tmp 32) (.tmp 34) (by rfl) F _ _ (by rfl) HSt2.out.own _ [r] (by rfl) 1 1 rfl (by rfl) H4.out HSt2.out.sz ?_)
            intro v3 w3 hown3 hb3
            have hst3 : OutAt w3 b 10 (waitW M out) := MapAt.block HSt2.out.wait (hb3.block b HK.out.bF)
            have hset3 : ∀ u z, u ∉ out → M u = some z → SetAt w3 z n0 (waitS ps out u) := fun u z hu hz => MapAt.block (HSt2.out.sets u z hu hz) (hb3.block z (HK.out.ends u z hz).2.2)
            have hLoF : w.heap.size ≤ F := by have := HK.out.bF; have := HK.out.bLo; omega
            have HB3 := Lib.hid (HB2.out.trans (hb3.mono hLoF))
            have hF3 : F ≤ w3.heap.size := Nat.le_trans HSt2.out.sz hb3.size
            have HO3 := Lib.hid hown3
            have HSet3 := Lib.hid hset3
            have HLoF := Lib.hid hLoF
            have HF3 := Lib.hid hF3
            clear hb3 HSt2 HB2 H4 hown3 hset3 hLoF hF3
            go_wp2_with (first
              | (at_delete; refine wp_del _ rfl _ _ 50 rfl (e := 54) keyInt Try.underlying3 Try.underlying50 rfl hst3 r rfl (inR_wf HN.out.1) ?_; intro w4 hout4 hg4 hs4)
              | (at_range; refine wp_range _ rfl _ 50 rfl keyInt Try.underlying50 rfl (MapAt.congr hout4 fun v _ => waitW_del M out r v) ?_; intro w5 L0 cnt0 hrg0 hL0 hc0 hg0 hs0)
              | go_in)
            try go_frame
            have hst4 : OutAt w4 b 10 (waitW M (out ++ [r])) := MapAt.congr hout4 fun v _ => waitW_del M out r v
            have hset4 : ∀ u z, u ∉ out → M u = some z → SetAt w4 z n0 (waitS ps out u) := fun u z hu hz => MapAt.kept (HSet3.out u z hu hz) hg4 (fun e => (HK.out.ends u z hz).2.1 (Option.some.inj e))
            have HO4 := Lib.hid (ownI_kept HO3.out hg4 (fun i hi => by cases hi; exact .inl HK.out.bF))
            have HB4 := Lib.hid (HB3.out.grown hg4 HB3.out.size (fun i hi => by cases hi; exact HK.out.bLo))
            have HF4 : Hid (F ≤ w4.heap.size) := Lib.hid (Nat.le_trans HF3.out hg4.size)
            have HSet4 := Lib.hid hset4
            clear hout4 hg4 hs4 hset4 hst3 HO3 HSet3 HB3 HF3
            have HD0 : Hid (DelSt ps M F n0 w5 out r v3 L0) := Lib.hid ⟨fun u z hu hz => by
                have hu' : u ∉ out := fun h => hu (List.mem_append_left _ h)
                have hLu : InR u → L0 u = true := fun hR => by
                  rw [hL0 u (inR_wf hR), waitW_of hR hu]; rfl
                refine SetAt.congr (MapAt.kept (HSet4.out u z hu' hz) hg0 (by simp)) fun a ha => ?_
                by_cases hR : InR u
                · rw [hLu hR]; simp
                · have : waitS ps out u a = false := by
                    unfold waitS
                    cases e : rb ps a u
                    · rfl
                    · exact absurd (reach_rng HG.out.rng ((rb_iff _ _ _).1 e)).2 hR
                  rw [this]; rfl, ownI_kept HO4.out hg0 (fun i hi => by cases hi), by have := HF4.out; omega⟩
            have HR0 := Lib.hid hrg0
            have HB5 := Lib.hid (HB4.out.grown hg0 HB4.out.size (fun i hi => by cases hi))
            have HT5 : Hid (∀ i, v3.ownBlock = some i → i ≠ w4.heap.size) := Lib.hid fun i hi => by have := ownI_tops HO4.out i hi; omega
            clear hrg0 hL0 hc0 hg0 hs0 HSet4 HO4 HB4 hst4
            go_loopw [40] (fun _ wr => ∃ (L : Int → Bool) (cnt : Nat), RangeAt Try.prog 3 refElem wr b w4.heap.size 10 (fun v => (waitW M (out ++ [r]) v).map refLit) L cnt ∧ DelSt ps M F n0 wr out r v3 L ∧ Below w.heap.size w wr)
              (fun _ wr => wr.rangeLeft b w4.heap.size)
            case atStart => exact ⟨_, _, HR0.out, HD0.out, HB5.out⟩
            case round =>
              clear HR0 HD0 HB5
              obtain ⟨L, cnt, hrg, hdel, hbel⟩ := hrel
              have HD := Lib.hid hdel
              have HBe := Lib.hid hbel
              clear hdel hbel
              go_wp2_with (first
                | (at_next; refine wp_next_out _ rfl _ rfl rfl hrg ?_ ?_)
                | go_in)
              · intro hl0
                have HL0 := Lib.hid hl0
                have HOut := Lib.hid hrg.owns
                clear hl0 hrg
                go_wp2
                go_roundw
                case rel => exact ⟨k + 1, out ++ [r], by omega, by go_num, HL.out.snoc HN.out, HD.out.fin HL0.out HOut.out, HBe.out⟩
                case measure => simp [intOf]; omega
              · intro x w6 cnt6 hcame
                have hen := hcame.entry
                have HC := Lib.hid hcame
                have HRg := Lib.hid hrg
                obtain ⟨hxr, hxo, hxm⟩ := waitW_some hcame.elem
                have HXO := Lib.hid hxo
                have HB6 : Hid (Below w.heap.size w w6) := Lib.hid (HBe.out.grown hcame.grown HBe.out.size (fun i hi => by cases hi; have := HF4.out; have := HLoF.out; omega))
                rw [hxm] at hen ⊢
                clear hcame hrg hxr hxo hxm
                cases hMx : M x with
                | none =>
                  rw [hMx] at hen
                  have hdrop := fun ty => Maps.drop_nil (P := Try.prog) (w := w6) (k := 3) (t := 54) keyInt Try.underlying54 (keyOf_int_mk Try.underlying3 (inR_wf HN.out.1)) ty
                  have HMx := Lib.hid hMx
                  clear hMx
                  go_wp2
                  go_roundw
                  case rel => exact ⟨_, cnt6, HC.out.range, HD.out.skip HK.out HMx.out HC.out.grown HF4.out HT5.out, HB6.out⟩
                  case measure => rw [HC.out.range.left_eq, HRg.out.left_eq]; exact HC.out.lt
                | some z =>
                  rw [hMx] at hen
                  have HMx := Lib.hid hMx
                  have hz6 : SetAt w6 z n0 (waitS ps out x) := SetAt.congr (MapAt.kept (HD.out.sets x z HXO.out hMx) HC.out.grown (fun e => by have := Option.some.inj e; have := (HK.out.ends x z hMx).2.2; have := HF4.out; omega)) fun a _ => by rw [HC.out.left]; simp
                  have HD6 : Hid (DelSt ps M F n0 w6 out r v3 L) := Lib.hid ⟨fun u z' hu hz' => MapAt.kept (HD.out.sets u z' hu hz') HC.out.grown (fun e => by have := Option.some.inj e; have := (HK.out.ends u z' hz').2.2; have := HF4.out; omega), ownI_blocks HD.out.own fun i hi => HC.out.grown.block i (ownI_tops HD.out.own i hi) (fun e => HT5.out i hi (Option.some.inj e)), Nat.le_trans HD.out.sz HC.out.grown.size⟩
                  have HEnds := Lib.hid (HK.out.ends x z hMx)
                  clear hMx
                  go_wp2_with (first
                    | (at_delete; refine wp_del _ rfl _ _ 54 rfl (e := 4) keyInt Try.underlying3 Try.underlying54 rfl hz6 r rfl (inR_wf HN.out.1) ?_; intro w7 hset7 hg7 hs7)
                    | go_in)
                  try go_frame
                  have hset7' : SetAt w7 z n0 (fun a => if a = r then false else waitS ps out x a) := MapAt.congr hset7 fun a _ => by
                    unfold bit
                    by_cases e : a = r <;> simp [e]
                  have HD7 := Lib.hid (HD6.out.take HK.out HMx.out HC.out.left HXO.out hg7 hset7')
                  have HRg7 := Lib.hid (HC.out.range.kept hg7 (fun e => by have := Option.some.inj e; have := HEnds.out.2.1; omega) (fun e => by have := Option.some.inj e; have := HEnds.out.2.2; have := HF4.out; omega))
                  have HB7 := Lib.hid (HB6.out.grown hg7 HB6.out.size (fun i hi => by cases hi; exact HEnds.out.1))
                  clear hset7 hset7' hg7 hs7 hz6 hen
                  go_wp2
                  go_roundw
                  case rel => exact ⟨_, cnt6, HRg7.out, HD7.out, HB7.out⟩
                  case measure => rw [HRg7.out.left_eq, HRg.out.left_eq]; exact HC.out.lt
          · obtain rfl : k = 10 := by omega
            have hFl : Hid (w.heap.size ≤ F) := Lib.hid (by have := HK.out.bF; have := HK.out.bLo; omega)
            go_wp2
            go_ret
            exact ⟨⟨_, out, rfl, OwnI_low HSt.out.own hFl.out, (fun _ => HL.out), fun h => by cases h⟩, HBe.out⟩
end Go.Proofs.Ytddpfnidnkhfpaa.num
