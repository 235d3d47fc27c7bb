/-
  The linear order of the model: contract.
-/
import Derived.Test.YtddpfnidnkhfpaaPairSpecD
namespace Go.Proofs.Ytddpfnidnkhfpaa.num
open Go.RowKit
set_option linter.unusedVariables false

theorem Lin.len {ps : List (Int × Int)} {k : Nat} {out : List Int} (h : Lin ps k out) : out.length = k := by
  induction h with
  | nil => rfl
  | snoc _ _ ih => simp [ih]
/-- What Linearize answers. -/
def LinP (ps : List (Int × Int)) (ok : Bool) (out : List Int) : Prop := (ok = true → Lin ps 10 out) ∧ (ok = false → out = [])
theorem LinP.one {ps : List (Int × Int)} {ok : Bool} {o o' : List Int} (h : LinP ps ok o) (h' : LinP ps ok o') : o = o' := by
  cases ok
  · rw [h.2 rfl, h'.2 rfl]
  · exact (h.1 rfl).one (h'.1 rfl)
def FreeUp (ps : List (Int × Int)) (out : List Int) (v : Int) (m : Nat) (f : Bool) : Prop := f = true ↔ v ∉ out ∧ ∀ p, p ∈ ps.take m → p.2 = v → p.1 ∈ out
theorem FreeUp.step {ps : List (Int × Int)} {out : List Int} {v : Int} {m : Nat} {f : Bool} {p : Int × Int} (h : FreeUp ps out v m f) (hp : ps[m]? = some p) {g : Bool} (hg : g = true ↔ f = true ∧ (p.2 = v → p.1 ∈ out)) : FreeUp ps out v (m + 1) g := by
  unfold FreeUp at h ⊢
  rw [hg, h, ptake_at hp]
  constructor
  · rintro ⟨⟨h1, h2⟩, h3⟩
    refine ⟨h1, fun q hq e => ?_⟩
    rcases List.mem_append.1 hq with hq | hq
    · exact h2 q hq e
    · obtain rfl := List.mem_singleton.1 hq
      exact h3 e
  · rintro ⟨h1, h2⟩
    exact ⟨⟨h1, fun q hq e => h2 q (List.mem_append_left _ hq) e⟩, fun e => h2 p (List.mem_append_right _ (by simp)) e⟩

set_option maxHeartbeats 2000000 in
theorem sLinearize (w : World) (B : Nat) (A : Option Addr) (n c : Nat) (ps : List (Int × Int)) (hi : Pairs w B A n ps) (hB : B ≤ w.heap.size) (hn : n ≤ 1048576) (q : Bool) (hq : q = true ↔ OkP ps) :
    Calls Try.prog 19 #[.slice A n c] w fun e w' => (∃ v out, e = .returned v ∧ OwnI w' w.heap.size v out ∧ LinP ps q out) ∧ Below w.heap.size w w' := by
  have HX := Lib.hid hi
  have HQ := Lib.hid hq
  clear hi hq
  go_enter Try.func19, Try.ntmps19
  go_wp2
  go_loopw [3] (fun v wr => ∃ (k : Nat) (out : List Int), k ≤ 10 ∧ (q = false → k = 0) ∧ Lin ps k out ∧ OwnI wr w.heap.size v out ∧ Below w.heap.size w wr) (fun v _ => 10 - (match v with | .slice _ n _ => n | _ => 0))
  case atStart => exact ⟨0, [], by decide, fun _ => rfl, .nil, OwnI.empty w _ (Nat.le_refl _), (Below.refl _ _).alloc (Nat.le_refl _) _⟩
  case round =>
    obtain ⟨k, out, hk, hk0, hlin, hown, hbel⟩ := hrel
    have HO := Lib.hid hown
    have HBe := Lib.hid hbel
    have HK0 := Lib.hid hk0
    have HL := Lib.hid hlin
    obtain ⟨A1, n1, c1, rfl, hints⟩ := hown.ints
    obtain rfl : n1 = k := by rw [← hints.1, hlin.len]
    have HI := Lib.hid hints
    clear hown hbel hk0 hlin hints
    by_cases hlt : n1 < 10
    · go_wp2_with fail
      refine (sArePairs wr B A n c ps (HX.out.below (HBe.out.mono hB)) (Nat.le_trans hB HBe.out.size) hn q HQ.out).mono ?_
      rintro e w1 ⟨rfl, hb1⟩
      have HB1 := Lib.hid (HBe.out.trans (hb1.mono HBe.out.size))
      have HO1 := Lib.hid (ownI_below HO.out hb1)
      have HI1 := Lib.hid ((HI.out.below hb1).more hb1.size)
      clear hb1 HO HBe HI
      cases q
      · obtain rfl : n1 = 0 := HK0.out rfl
        go_wp2
        go_ret
        exact ⟨⟨_, out, rfl, HO1.out, (fun h => by cases h), fun _ => List.eq_nil_of_length_eq_zero HL.out.len⟩, HB1.out⟩
      · clear HK0
        have HG := Lib.hid (HQ.out.1 rfl).1
        obtain ⟨wo, hwo⟩ : ∃ wo : World, wo = w1 := ⟨_, rfl⟩
        subst hwo
        go_wp2
        go_loopw [3, 4] (fun vv i wr => ∃ j : Nat, j ≤ 10 ∧ i = .int .i64 j ∧ vv = .slice A1 n1 c1 ∧ (∀ u : Int, 0 ≤ u → u < j → freeB ps out u = false) ∧ wr = wo) (fun _ i _ => 10 - (intOf i).toNat)
        case atStart => exact ⟨0, by decide, rfl, rfl, (fun u h1 h2 => by omega), rfl⟩
        case round =>
          obtain ⟨j, hj, rfl, rfl, hmin, rfl⟩ := hrel
          have HM := Lib.hid hmin
          clear hmin
          by_cases hjt : j < 10
          · obtain ⟨g, hg⟩ := bool_of ((j : Int) ∈ out)
            have HGm := Lib.hid hg
            clear hg
            go_wp2_with fail
            refine (has_of _ _ _ _ _ out HI1.out (by omega) j g HGm.out).mono ?_
            rintro e w2 ⟨rfl, rfl⟩
            go_wp2
            go_loopw [5, 6] (fun f i wr' => ∃ (m : Nat) (fr : Bool), m ≤ n ∧ i = .int .i64 m ∧ f = .bool fr ∧ FreeUp ps out j m fr ∧ wr' = wr) (fun _ i _ => n - (intOf i).toNat)
            case atStart =>
              refine ⟨0, !g, Nat.zero_le _, rfl, rfl, ?_, rfl⟩
              unfold FreeUp
              have := HGm.out
              cases g <;> simp_all
            case round =>
              obtain ⟨m, fr, hm, rfl, rfl, hfree, rfl⟩ := hrel
              have HF := Lib.hid hfree
              clear hfree
              by_cases hmt : m < n
              · obtain ⟨b1, off, x, y, rfl, hb1, hat, hc1, hc2⟩ := HX.out.at m hmt
                have f1 := (HB1.out.cell (p := ⟨b1, off + m * 2, none⟩) (by exact Nat.lt_of_lt_of_le hb1 hB)).trans hc1
                have f2 := (HB1.out.cell (p := ⟨b1, off + m * 2 + 1, none⟩) (by exact Nat.lt_of_lt_of_le hb1 hB)).trans hc2
                have HT := Lib.hid hat
                clear hc1 hc2 hat
                cases fr
                · go_wp2
                  go_roundw
                  case rel => exact ⟨m + 1, false, by omega, by go_num, rfl, HF.out.step HT.out (by simp), by first | rfl | trivial⟩
                  case measure => simp [intOf]; omega
                · by_cases he : y = j
                  · obtain ⟨z, hz⟩ : ∃ z : Int, z = (j : Int) := ⟨_, rfl⟩
                    obtain ⟨r, hr⟩ := bool_of (x ∈ out)
                    have HR := Lib.hid hr
                    have HE := Lib.hid he
                    have hne : (y != (j : Int)) = false := by simpa using he
                    clear hr hz
                    subst he
                    go_wp2_with fail
                    refine (has_of _ _ _ _ _ out HI1.out (by omega) x r HR.out).mono ?_
                    rintro e w2 ⟨rfl, rfl⟩
                    go_wp2
                    go_roundw
                    case rel => exact ⟨m + 1, r, by omega, by go_num, by first | rfl | trivial, HF.out.step HT.out (by rw [HR.out]; simp), by first | rfl | trivial⟩
                    case measure => simp [intOf]; omega
                  · have hne : (y != (j : Int)) = true := by simpa using he
                    have HE := Lib.hid he
                    clear he
                    go_wp2
                    go_roundw
                    case rel => exact ⟨m + 1, true, by omega, by go_num, by first | rfl | trivial, HF.out.step HT.out (by have := HE.out; simp [this]), by first | rfl | trivial⟩
                    case measure => simp [intOf]; omega
              · obtain rfl : m = n := by omega
                have hfb : fr = true ↔ freeB ps out j = true := by
                  have h := HF.out
                  unfold FreeUp at h
                  rw [ptake_all HX.out.1] at h
                  rw [h, freeB_pairs HG.out (HL.out.up HG.out).1]
                have HFB := Lib.hid hfb
                clear hfb
                cases fr
                · go_wp2
                  go_roundw
                  case rel =>
                    refine ⟨j + 1, by omega, by go_num, by first | rfl | trivial, fun u h1 h2 => ?_, by first | rfl | trivial⟩
                    by_cases e : u = j
                    · subst e
                      cases hf : freeB ps out j
                      · rfl
                      · have := HFB.out.2 hf; cases this
                    · exact HM.out u h1 (by omega)
                  case measure => simp [intOf]; omega
                · have H4 : Hid ((out.length + [(j : Int)].length) * 8 ≤ 140737488355328) := Lib.hid (by
                    have := HL.out.len
                    simp only [List.length_cons, List.length_nil]
                    omega)
                  have hnext : NextV ps out j := ⟨by unfold InR; omega, HFB.out.1 rfl, fun u h1 h2 => by
                    refine Classical.byContradiction fun h => ?_
                    have := HM.out u h1.1 (by omega)
                    rw [this] at h2; cases h2⟩
                  have HN := Lib.hid hnext
                  clear hnext
                  go_wp2_with (at_builtin; refine wp_appI _ (by rfl) (.tmp 49) (.tmp 51) (by rfl) w.heap.size _ _ (by rfl) HO1.out _ [(j : Int)] (by rfl) 1 1 rfl (by rfl) H4.out HB1.out.size ?_)
                  intro v1 w3 hown2 hb2
                  have hl2 : ∃ A2 c2, v1 = .slice A2 (n1 + 1) c2 := by
                    obtain ⟨A2, n2, c2, h, hi2⟩ := hown2.ints
                    refine ⟨A2, c2, ?_⟩
                    rw [h, ← hi2.1, List.length_append, HL.out.len]; rfl
                  obtain ⟨A2, c2, rfl⟩ := hl2
                  have HO2 := Lib.hid hown2
                  have HB2 := Lib.hid (HB1.out.trans hb2)
                  clear hown2 hb2
                  go_wp2
                  go_roundw
                  case rel => exact ⟨n1 + 1, out ++ [(j : Int)], by omega, (fun h => by cases h), HL.out.snoc HN.out, HO2.out, HB2.out⟩
                  case measure => simp; omega
          · obtain rfl : j = 10 := by omega
            obtain ⟨v, hv⟩ := HL.out.next HG.out hlt
            have h1 := HM.out v hv.1.1 (by have := hv.1.2; omega)
            rw [hv.2.1] at h1
            cases h1
    · obtain rfl : n1 = 10 := by omega
      obtain rfl : q = true := by
        cases q
        · have := HK0.out rfl; omega
        · rfl
      go_wp2
      go_ret
      first
      | exact ⟨⟨_, out, rfl, HO.out, (fun _ => HL.out), fun h => by cases h⟩, HBe.out⟩
      | exact ⟨⟨_, rfl, out, HO.out, (fun _ => HL.out), fun h => by cases h⟩, HBe.out⟩
end Go.Proofs.Ytddpfnidnkhfpaa.num
