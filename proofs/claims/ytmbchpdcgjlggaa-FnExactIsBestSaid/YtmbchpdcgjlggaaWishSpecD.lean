/-
  The model's RankOfValue, CompareValues, CodeName; the program's CodeName.
-/
import Derived.Test.YtmbchpdcgjlggaaWishSpecC
namespace Go.Proofs.Ytmbchpdcgjlggaa.num
set_option maxRecDepth 20000
open Go.RowKit
set_option linter.unusedVariables false

/-- What RankOfValue answers. -/
def rankV (d : WD) (q : Bool) (x : Int) : Int := if q then rankW d x else 0
/-- What CompareValues answers. -/
def cmpV (d : WD) (q : Bool) (x y : Int) : Int := if q then cmpW d x y else 2

set_option maxRecDepth 20000 in
theorem sRankOf (w : World) (B : Nat) (t : Wi) (hi : WiIn w B t) (hB : B ≤ w.heap.size) (hn : t.Short) (x : Int) (q : Bool) (hq : q = true ↔ IsW t.dat ∧ t.kind ≠ 4 ∧ InR x) :
    Calls Try.prog 27 #[t.val, .int .i64 x] w fun e w' => e = .returned (.tuple #[.int .i64 (rankV t.dat q x), .bool q]) ∧ Below w.heap.size w w' := by
  have HI := Lib.hid hi
  have HN := Lib.hid hn
  have HQ := Lib.hid hq
  have HB1 : Hid (∀ o : Obj, Below B w (w.alloc o)) := Lib.hid fun o => (Below.refl B w).alloc hB _
  have HW1 : Hid (∀ o : Obj, Below w.heap.size w (w.alloc o)) := Lib.hid fun o => (Below.refl _ w).alloc (Nat.le_refl _) _
  obtain ⟨qw, hqw⟩ := bool_of (IsW t.dat)
  obtain ⟨qx, hqx⟩ := bool_of (0 ≤ x ∧ x ≤ 9)
  have HS : Hid (∀ w1 : World, WiIn w1 B t → B ≤ w1.heap.size → Calls Try.prog 16 #[t.val] w1 fun e w' => e = .returned (.bool qw) ∧ Below w1.heap.size w1 w') := Lib.hid fun w1 h1 h2 => sIsWish w1 B t h1 h2 hn qw hqw
  have HR : Hid (∀ w1 : World, WiIn w1 B t → B ≤ w1.heap.size → q = true → Calls Try.prog 73 #[t.val, .int .i64 x] w1 fun e w' => e = .returned (.int .i64 (rankV t.dat q x)) ∧ Below w1.heap.size w1 w') := Lib.hid fun w1 h1 h2 h => by
    have h0 := hq.1 h
    subst h
    exact sRank w1 B t h1 h2 hn h0.1 h0.2.1 x h0.2.2
  have HQW := Lib.hid hqw
  have HQX := Lib.hid hqx
  have HV : Hid (q = false → rankV t.dat q x = 0) := Lib.hid fun h => by subst h; rfl
  have hno : (qw = false ∨ t.kind = 4 ∨ qx = false) → q = false := fun h => by
    cases q
    · rfl
    · obtain ⟨h1, h2, h3⟩ := HQ.out.1 rfl
      rcases h with h | h | h
      · rw [HQW.out.2 h1] at h; cases h
      · exact absurd h h2
      · rw [HQX.out.2 h3] at h; cases h
  have hyes : qw = true → t.kind ≠ 4 → qx = true → q = true := fun h1 h2 h3 => HQ.out.2 ⟨HQW.out.1 h1, h2, HQX.out.1 h3⟩
  have HNo := Lib.hid hno
  have HYes := Lib.hid hyes
  clear hi hn hq hqw hqx hno hyes HQ HQW
  generalize rankV t.dat q x = z at *
  obtain ⟨k, f, v, LA, Ln, Lc, ls, PA, Pn, Pc, ps⟩ := t
  unfold Wi.val at HS HR ⊢
  simp only [] at HNo HYes
  go_enter Try.func27, Try.ntmps27
  go_wp2_with fail
  refine (HS.out _ (HI.out.below (HB1.out _)) (by simp; omega)).mono ?_
  rintro e w1 ⟨rfl, hb1⟩
  obtain ⟨c0, c1, c2, c3, c4, hg⟩ := box5 hb1
  have HBB := Lib.hid (And.intro ((HW1.out _).trans (hb1.mono (by simp))) ((HB1.out _).trans (hb1.mono (by simp; omega))))
  clear hb1
  cases qw
  · obtain rfl := HNo.out (.inl rfl)
    obtain rfl := HV.out rfl
    go_wp2
    go_ret2
    exact ⟨rfl, HBB.out.1⟩
  · by_cases h4 : k = 4
    · subst h4
      obtain rfl := HNo.out (.inr (.inl rfl))
      obtain rfl := HV.out rfl
      go_wp2
      go_ret2
      exact ⟨rfl, HBB.out.1⟩
    · have h4' : (k == 4) = false := by simpa using h4
      have H4 := Lib.hid h4
      clear h4
      cases qx
      · obtain rfl := HNo.out (.inr (.inr rfl))
        obtain rfl := HV.out rfl
        go_wp2_with fail
        refine (in_of x 0 9 false HQX.out _).mono ?_
        rintro e w2 ⟨rfl, rfl⟩
        go_wp2
        go_ret2
        exact ⟨rfl, HBB.out.1⟩
      · obtain rfl := HYes.out rfl H4.out rfl
        have HX := Lib.hid (HQX.out.1 rfl)
        go_wp2_with fail
        refine (in_of x 0 9 true ⟨fun _ => HX.out, fun _ => rfl⟩ _).mono ?_
        rintro e w2 ⟨rfl, rfl⟩
        go_wp2_with fail
        refine (HR.out _ (HI.out.below HBB.out.2) (by omega) (by first | rfl | trivial)).mono ?_
        rintro e w2 ⟨rfl, hb2⟩
        have HBC := Lib.hid (HBB.out.1.trans (hb2.mono HBB.out.1.size))
        clear hb2 c0 c1 c2 c3 c4
        go_wp2
        go_ret2
        exact ⟨rfl, HBC.out⟩

set_option maxRecDepth 20000 in
theorem sCmpVals (w : World) (B : Nat) (t : Wi) (hi : WiIn w B t) (hB : B ≤ w.heap.size) (hn : t.Short) (x y : Int) (q : Bool) (hq : q = true ↔ IsW t.dat ∧ InR x ∧ InR y) :
    Calls Try.prog 20 #[t.val, .int .i64 x, .int .i64 y] w fun e w' => e = .returned (.int .i64 (cmpV t.dat q x y)) ∧ Below w.heap.size w w' := by
  have HI := Lib.hid hi
  have HN := Lib.hid hn
  have HQ := Lib.hid hq
  have HB1 : Hid (∀ o : Obj, Below B w (w.alloc o)) := Lib.hid fun o => (Below.refl B w).alloc hB _
  have HW1 : Hid (∀ o : Obj, Below w.heap.size w (w.alloc o)) := Lib.hid fun o => (Below.refl _ w).alloc (Nat.le_refl _) _
  obtain ⟨qw, hqw⟩ := bool_of (IsW t.dat)
  obtain ⟨qx, hqx⟩ := bool_of (0 ≤ x ∧ x ≤ 9)
  obtain ⟨qy, hqy⟩ := bool_of (0 ≤ y ∧ y ≤ 9)
  have HS : Hid (∀ w1 : World, WiIn w1 B t → B ≤ w1.heap.size → Calls Try.prog 16 #[t.val] w1 fun e w' => e = .returned (.bool qw) ∧ Below w1.heap.size w1 w') := Lib.hid fun w1 h1 h2 => sIsWish w1 B t h1 h2 hn qw hqw
  have HR : Hid (∀ w1 : World, WiIn w1 B t → B ≤ w1.heap.size → q = true → Calls Try.prog 69 #[t.val, .int .i64 x, .int .i64 y] w1 fun e w' => e = .returned (.int .i64 (cmpV t.dat q x y)) ∧ Below w1.heap.size w1 w') := Lib.hid fun w1 h1 h2 h => by
    have h0 := hq.1 h
    subst h
    exact sCmp w1 B t h1 h2 hn h0.1 x y h0.2.1 h0.2.2
  have HQW := Lib.hid hqw
  have HQX := Lib.hid hqx
  have HQY := Lib.hid hqy
  have HV : Hid (q = false → cmpV t.dat q x y = 2) := Lib.hid fun h => by subst h; rfl
  have hno : (qw = false ∨ qx = false ∨ qy = false) → q = false := fun h => by
    cases q
    · rfl
    · obtain ⟨h1, h2, h3⟩ := HQ.out.1 rfl
      rcases h with h | h | h
      · rw [HQW.out.2 h1] at h; cases h
      · rw [HQX.out.2 h2] at h; cases h
      · rw [HQY.out.2 h3] at h; cases h
  have hyes : qw = true → qx = true → qy = true → q = true := fun h1 h2 h3 => HQ.out.2 ⟨HQW.out.1 h1, HQX.out.1 h2, HQY.out.1 h3⟩
  have HNo := Lib.hid hno
  have HYes := Lib.hid hyes
  clear hi hn hq hqw hqx hqy hno hyes HQ HQW
  generalize cmpV t.dat q x y = z at *
  obtain ⟨k, f, v, LA, Ln, Lc, ls, PA, Pn, Pc, ps⟩ := t
  unfold Wi.val at HS HR ⊢
  go_enter Try.func20, Try.ntmps20
  go_wp2_with fail
  refine (HS.out _ (HI.out.below (HB1.out _)) (by simp; omega)).mono ?_
  rintro e w1 ⟨rfl, hb1⟩
  obtain ⟨c0, c1, c2, c3, c4, hg⟩ := box5 hb1
  have HBB := Lib.hid (And.intro ((HW1.out _).trans (hb1.mono (by simp))) ((HB1.out _).trans (hb1.mono (by simp; omega))))
  clear hb1
  cases qw
  · obtain rfl := HNo.out (.inl rfl)
    obtain rfl := HV.out rfl
    go_wp2
    go_ret
    exact ⟨rfl, HBB.out.1⟩
  · cases qx
    · obtain rfl := HNo.out (.inr (.inl rfl))
      obtain rfl := HV.out rfl
      go_wp2_with fail
      refine (in_of x 0 9 false HQX.out _).mono ?_
      rintro e w2 ⟨rfl, rfl⟩
      go_wp2
      go_ret
      exact ⟨rfl, HBB.out.1⟩
    · have HX := Lib.hid (HQX.out.1 rfl)
      cases qy
      · obtain rfl := HNo.out (.inr (.inr rfl))
        obtain rfl := HV.out rfl
        go_wp2_with fail
        refine (in_of x 0 9 true ⟨fun _ => HX.out, fun _ => rfl⟩ _).mono ?_
        rintro e w2 ⟨rfl, rfl⟩
        go_wp2_with fail
        refine (in_of y 0 9 false HQY.out _).mono ?_
        rintro e w2 ⟨rfl, rfl⟩
        go_wp2
        go_ret
        exact ⟨rfl, HBB.out.1⟩
      · obtain rfl := HYes.out rfl rfl rfl
        have HY := Lib.hid (HQY.out.1 rfl)
        go_wp2_with fail
        refine (in_of x 0 9 true ⟨fun _ => HX.out, fun _ => rfl⟩ _).mono ?_
        rintro e w2 ⟨rfl, rfl⟩
        go_wp2_with fail
        refine (in_of y 0 9 true ⟨fun _ => HY.out, fun _ => rfl⟩ _).mono ?_
        rintro e w2 ⟨rfl, rfl⟩
        go_wp2_with fail
        refine (HR.out _ (HI.out.below HBB.out.2) (by omega) (by first | rfl | trivial)).mono ?_
        rintro e w2 ⟨rfl, hb2⟩
        have HBC := Lib.hid (HBB.out.1.trans (hb2.mono HBB.out.1.size))
        clear hb2 c0 c1 c2 c3 c4
        go_wp2
        go_ret
        exact ⟨rfl, HBC.out⟩

/-- The name of a code. -/
def nameC (c : Int) : ByteArray := if c = -1 then ⟨#[119, 111, 114, 115, 101]⟩ else if c = 0 then ⟨#[101, 113, 117, 97, 108]⟩ else if c = 1 then ⟨#[98, 101, 116, 116, 101, 114]⟩ else if c = 2 then ⟨#[117, 110, 114, 101, 108, 97, 116, 101, 100]⟩ else ⟨#[]⟩
end Go.Proofs.Ytmbchpdcgjlggaa.num
