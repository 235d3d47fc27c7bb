/-
  The program's RankOfValue, CompareValues: contracts.
-/
import Derived.Test.YtmbchpdcgjlggaaWishProgA
import Derived.Test.YtmbchpdcgjlggaaWishCmp
import Derived.Test.YtmbchpdcgjlggaaWishSpecD
namespace Go.Proofs.Ytmbchpdcgjlggaa.num
set_option maxRecDepth 20000
open Go.RowKit Go.Maps
set_option linter.unusedVariables false

set_option maxRecDepth 20000 in
set_option maxHeartbeats 1600000 in
theorem iRankOf (w : World) (B : Nat) (t : Wi) (hi : WiIn w B t) (hB : B ≤ w.heap.size) (hn : t.Short) (x : Int) (q : Bool) (hq : q = true ↔ IsW t.dat ∧ t.kind ≠ 4 ∧ InR x) :
    Calls Try.prog 28 #[t.val, .int .i64 x] w fun e w' => e = .returned (.tuple #[.int .i64 (rankV t.dat q x), .bool q]) ∧ Below w.heap.size w w' := by
  have HI := Lib.hid hi
  have HB1 : Hid (∀ o : Obj, Below B w (w.alloc o)) := Lib.hid fun o => (Below.refl B w).alloc hB _
  have HW1 : Hid (∀ o : Obj, Below w.heap.size w (w.alloc o)) := Lib.hid fun o => (Below.refl _ w).alloc (Nat.le_refl _) _
  obtain ⟨qw, hqw⟩ := bool_of (IsW t.dat)
  have HS : Hid (∀ w1 : World, WiIn w1 B t → B ≤ w1.heap.size → Calls Try.prog 67 #[t.val] w1 fun e w' => (∃ v, e = .returned (.tuple #[v, .bool qw]) ∧ (qw = true → TasteAt w' t v)) ∧ Below w1.heap.size w1 w') := Lib.hid fun w1 h1 h2 => taste_of w1 B t h1 h2 hn qw hqw
  obtain ⟨qx, hqx⟩ := bool_of (InR x)
  have HQX := Lib.hid hqx
  have HNo : Hid ((qw = false ∨ qx = false ∨ t.kind = 4) → q = false) := Lib.hid fun h => by
    cases q
    · rfl
    · obtain ⟨h1, h2, h3⟩ := hq.1 rfl
      rcases h with h | h | h
      · rw [hqw.2 h1] at h; cases h
      · rw [hqx.2 h3] at h; cases h
      · exact absurd h h2
  have HYes : Hid (qw = true → t.kind ≠ 4 → qx = true → q = true) := Lib.hid fun h1 h2 h3 => hq.2 ⟨hqw.1 h1, h2, hqx.1 h3⟩
  have HV : Hid (q = false → rankV t.dat q x = 0) := Lib.hid fun h => by subst h; rfl
  have HU : Hid (q = true → rankV t.dat q x = rankW t.dat x) := Lib.hid fun h => by subst h; rfl
  have HLs : Hid (∀ w1, Below B w w1 → Ints w1 B t.LA t.Ln t.ls) := Lib.hid fun w1 h => hi.l.below h
  have HLn : Hid (t.Ln ≤ 1048576) := Lib.hid hn.1
  clear hi hq hqw hqx
  generalize rankV t.dat q x = z at *
  have hval : t.val = .agg #[.int .i64 t.kind, .int .i64 t.field, .int .i64 t.value, .slice t.LA t.Ln t.Lc, .slice t.PA t.Pn t.Pc] := rfl
  rw [hval] at HS ⊢
  clear hval
  go_enter Try.func28, Try.ntmps28
  go_wp2_with fail
  refine (HS.out _ (HI.out.below (HB1.out _)) (by simp; omega)).mono ?_
  rintro e w1 ⟨⟨tv, rfl, ht⟩, hb1⟩
  obtain ⟨c0, c1, c2, c3, c4, hg⟩ := box5 hb1
  have HBB := Lib.hid (And.intro ((HW1.out _).trans (hb1.mono (by simp))) ((HB1.out _).trans (hb1.mono (by simp; omega))))
  have HT := Lib.hid ht
  clear hb1 ht
  cases qw
  · obtain rfl := HNo.out (.inl rfl)
    obtain rfl := HV.out rfl
    go_wp2
    go_ret2
    exact ⟨rfl, HBB.out.1⟩
  cases qx
  · obtain rfl := HNo.out (.inr (.inl rfl))
    obtain rfl := HV.out rfl
    go_wp2_with fail
    refine (isValue_of x false HQX.out _).mono ?_
    rintro e w2 ⟨rfl, rfl⟩
    go_wp2
    go_ret2
    exact ⟨rfl, HBB.out.1⟩
  have HX := Lib.hid (HQX.out.1 rfl)
  clear HQX
  rcases HT.out rfl with ⟨h4, b, hb, rfl, hr⟩ | ⟨h4, rfl, hr⟩ | ⟨h4, o, B2, rfl, hab⟩
  · obtain rfl := HYes.out rfl h4 rfl
    have HZ := Lib.hid ((HU.out rfl).trans (hr x HX.out))
    have hm := near_rank_m b
    have HB := Lib.hid hb
    clear hr h4 hb HT
    unfold nearI
    go_wp2_with fail
    refine (isValue_of x true ⟨fun _ => HX.out, fun _ => rfl⟩ _).mono ?_
    rintro e w2 ⟨rfl, rfl⟩
    go_wp2_with fail
    refine (nearRank _ b x HB.out HX.out).mono ?_
    rintro e w2 ⟨rfl, hb2⟩
    have HBC := Lib.hid (HBB.out.1.trans (hb2.mono HBB.out.1.size))
    clear hb2 c0 c1 c2 c3 c4 hm
    rw [← HZ.out]
    go_wp2
    go_ret2
    exact ⟨rfl, HBC.out⟩
  · obtain rfl := HYes.out rfl h4 rfl
    have HZ := Lib.hid ((HU.out rfl).trans (hr x))
    have hm := among_rank_m t.LA t.Ln t.Lc
    clear hr h4 HT
    unfold amongI
    go_wp2_with fail
    refine (isValue_of x true ⟨fun _ => HX.out, fun _ => rfl⟩ _).mono ?_
    rintro e w2 ⟨rfl, rfl⟩
    go_wp2_with fail
    refine (amongRank _ B t.LA t.Ln t.Lc t.ls (HLs.out _ HBB.out.2) (by omega) HLn.out x).mono ?_
    rintro e w2 ⟨rfl, hb2⟩
    have HBC := Lib.hid (HBB.out.1.trans (hb2.mono HBB.out.1.size))
    clear hb2 c0 c1 c2 c3 c4 hm
    rw [← HZ.out]
    go_wp2
    go_ret2
    exact ⟨rfl, HBC.out⟩
  · obtain rfl := HNo.out (.inr (.inr h4))
    obtain rfl := HV.out rfl
    have hm := order_rank_m o
    clear hab h4 HT
    unfold orderI
    go_wp2_with fail
    refine (isValue_of x true ⟨fun _ => HX.out, fun _ => rfl⟩ _).mono ?_
    rintro e w2 ⟨rfl, rfl⟩
    go_wp2_with fail
    refine (orderRank _ o x).mono ?_
    rintro e w2 ⟨rfl, hb2⟩
    have HBC := Lib.hid (HBB.out.1.trans (hb2.mono HBB.out.1.size))
    clear hb2 c0 c1 c2 c3 c4 hm
    go_wp2
    go_ret2
    exact ⟨rfl, HBC.out⟩

set_option maxRecDepth 20000 in
set_option maxHeartbeats 1600000 in
theorem iCmpVals (w : World) (B : Nat) (t : Wi) (hi : WiIn w B t) (hB : B ≤ w.heap.size) (hn : t.Short) (x y : Int) (q : Bool) (hq : q = true ↔ IsW t.dat ∧ InR x ∧ InR y) :
    Calls Try.prog 21 #[t.val, .int .i64 x, .int .i64 y] w fun e w' => e = .returned (.int .i64 (cmpV t.dat q x y)) ∧ Below w.heap.size w w' := by
  have HI := Lib.hid hi
  have HB1 : Hid (∀ o : Obj, Below B w (w.alloc o)) := Lib.hid fun o => (Below.refl B w).alloc hB _
  have HW1 : Hid (∀ o : Obj, Below w.heap.size w (w.alloc o)) := Lib.hid fun o => (Below.refl _ w).alloc (Nat.le_refl _) _
  obtain ⟨qw, hqw⟩ := bool_of (IsW t.dat)
  have HS : Hid (∀ w1 : World, WiIn w1 B t → B ≤ w1.heap.size → Calls Try.prog 67 #[t.val] w1 fun e w' => (∃ v, e = .returned (.tuple #[v, .bool qw]) ∧ (qw = true → TasteAt w' t v)) ∧ Below w1.heap.size w1 w') := Lib.hid fun w1 h1 h2 => taste_of w1 B t h1 h2 hn qw hqw
  obtain ⟨qx, hqx⟩ := bool_of (InR x)
  obtain ⟨qy, hqy⟩ := bool_of (InR y)
  have HQX := Lib.hid hqx
  have HQY := Lib.hid hqy
  have HNo : Hid ((qw = false ∨ qx = false ∨ qy = false) → q = false) := Lib.hid fun h => by
    cases q
    · rfl
    · obtain ⟨h1, h2, h3⟩ := hq.1 rfl
      rcases h with h | h | h
      · rw [hqw.2 h1] at h; cases h
      · rw [hqx.2 h2] at h; cases h
      · rw [hqy.2 h3] at h; cases h
  have HYes : Hid (qw = true → qx = true → qy = true → q = true) := Lib.hid fun h1 h2 h3 => hq.2 ⟨hqw.1 h1, hqx.1 h2, hqy.1 h3⟩
  have HV : Hid (q = false → cmpV t.dat q x y = 2) := Lib.hid fun h => by subst h; rfl
  have HU : Hid (q = true → cmpV t.dat q x y = cmpW t.dat x y) := Lib.hid fun h => by subst h; rfl
  have HLs : Hid (∀ w1, Below B w w1 → Ints w1 B t.LA t.Ln t.ls) := Lib.hid fun w1 h => hi.l.below h
  have HLn : Hid (t.Ln ≤ 1048576) := Lib.hid hn.1
  clear hi hq hqw hqx hqy
  generalize cmpV t.dat q x y = z at *
  have hval : t.val = .agg #[.int .i64 t.kind, .int .i64 t.field, .int .i64 t.value, .slice t.LA t.Ln t.Lc, .slice t.PA t.Pn t.Pc] := rfl
  rw [hval] at HS ⊢
  clear hval
  go_enter Try.func21, Try.ntmps21
  go_wp2_with fail
  refine (HS.out _ (HI.out.below (HB1.out _)) (by simp; omega)).mono ?_
  rintro e w1 ⟨⟨tv, rfl, ht⟩, hb1⟩
  obtain ⟨c0, c1, c2, c3, c4, hg⟩ := box5 hb1
  have HBB := Lib.hid (And.intro ((HW1.out _).trans (hb1.mono (by simp))) ((HB1.out _).trans (hb1.mono (by simp; omega))))
  have HT := Lib.hid ht
  clear hb1 ht
  cases qw
  · obtain rfl := HNo.out (.inl rfl)
    obtain rfl := HV.out rfl
    go_wp2
    go_ret
    exact ⟨rfl, HBB.out.1⟩
  cases qx
  · obtain rfl := HNo.out (.inr (.inl rfl))
    obtain rfl := HV.out rfl
    go_wp2_with fail
    refine (isValue_of x false HQX.out _).mono ?_
    rintro e w2 ⟨rfl, rfl⟩
    go_wp2
    go_ret
    exact ⟨rfl, HBB.out.1⟩
  have HX := Lib.hid (HQX.out.1 rfl)
  clear HQX
  cases qy
  · obtain rfl := HNo.out (.inr (.inr rfl))
    obtain rfl := HV.out rfl
    go_wp2_with fail
    refine (isValue_of x true ⟨fun _ => HX.out, fun _ => rfl⟩ _).mono ?_
    rintro e w2 ⟨rfl, rfl⟩
    go_wp2_with fail
    refine (isValue_of y false HQY.out _).mono ?_
    rintro e w2 ⟨rfl, rfl⟩
    go_wp2
    go_ret
    exact ⟨rfl, HBB.out.1⟩
  have HY := Lib.hid (HQY.out.1 rfl)
  clear HQY
  obtain rfl := HYes.out rfl rfl rfl
  rcases HT.out rfl with ⟨h4, b, hb, rfl, hr⟩ | ⟨h4, rfl, hr⟩ | ⟨h4, o, B2, rfl, hab⟩
  · have HZ := Lib.hid ((HU.out rfl).trans (show cmpW t.dat x y = _ by unfold cmpW; rw [if_neg (show ¬ t.dat.kind = 4 from h4), hr x HX.out, hr y HY.out]))
    have hm := near_cmp_m b
    have HB := Lib.hid hb
    clear hr h4 hb HT
    unfold nearI
    go_wp2_with fail
    refine (isValue_of x true ⟨fun _ => HX.out, fun _ => rfl⟩ _).mono ?_
    rintro e w2 ⟨rfl, rfl⟩
    go_wp2_with fail
    refine (isValue_of y true ⟨fun _ => HY.out, fun _ => rfl⟩ _).mono ?_
    rintro e w2 ⟨rfl, rfl⟩
    go_wp2_with fail
    refine (nearCmp _ b x y HB.out HX.out HY.out).mono ?_
    rintro e w2 ⟨rfl, hb2⟩
    have HBC := Lib.hid (HBB.out.1.trans (hb2.mono HBB.out.1.size))
    clear hb2 c0 c1 c2 c3 c4 hm
    rw [← HZ.out]
    go_wp2
    go_ret
    exact ⟨rfl, HBC.out⟩
  · have HZ := Lib.hid ((HU.out rfl).trans (show cmpW t.dat x y = _ by unfold cmpW; rw [if_neg (show ¬ t.dat.kind = 4 from h4), hr x, hr y]))
    have hm := among_cmp_m t.LA t.Ln t.Lc
    clear hr h4 HT
    unfold amongI
    go_wp2_with fail
    refine (isValue_of x true ⟨fun _ => HX.out, fun _ => rfl⟩ _).mono ?_
    rintro e w2 ⟨rfl, rfl⟩
    go_wp2_with fail
    refine (isValue_of y true ⟨fun _ => HY.out, fun _ => rfl⟩ _).mono ?_
    rintro e w2 ⟨rfl, rfl⟩
    go_wp2_with fail
    refine (amongCmp _ B t.LA t.Ln t.Lc t.ls x y (HLs.out _ HBB.out.2) (by omega) HLn.out).mono ?_
    rintro e w2 ⟨rfl, hb2⟩
    have HBC := Lib.hid (HBB.out.1.trans (hb2.mono HBB.out.1.size))
    clear hb2 c0 c1 c2 c3 c4 hm
    rw [← HZ.out]
    go_wp2
    go_ret
    exact ⟨rfl, HBC.out⟩
  · have HZ := Lib.hid ((HU.out rfl).trans (show cmpW t.dat x y = _ by unfold cmpW; rw [if_pos (show t.dat.kind = 4 from h4)]))
    have hm := order_cmp_m o
    have HA := Lib.hid hab
    clear hab h4 HT
    unfold orderI
    go_wp2_with fail
    refine (isValue_of x true ⟨fun _ => HX.out, fun _ => rfl⟩ _).mono ?_
    rintro e w2 ⟨rfl, rfl⟩
    go_wp2_with fail
    refine (isValue_of y true ⟨fun _ => HY.out, fun _ => rfl⟩ _).mono ?_
    rintro e w2 ⟨rfl, rfl⟩
    go_wp2_with fail
    refine (orderCmp _ B2 o t.ps HA.out x y HX.out HY.out).mono ?_
    rintro e w2 ⟨rfl, hb2⟩
    have HBC := Lib.hid (HBB.out.1.trans (hb2.mono HBB.out.1.size))
    clear hb2 c0 c1 c2 c3 c4 hm
    rw [show (if x = y then (0 : Int) else if rb t.ps x y = true then 1 else if rb t.ps y x = true then -1 else 2) = z from HZ.out.symm]
    go_wp2
    go_ret
    exact ⟨rfl, HBC.out⟩
end Go.Proofs.Ytmbchpdcgjlggaa.num
