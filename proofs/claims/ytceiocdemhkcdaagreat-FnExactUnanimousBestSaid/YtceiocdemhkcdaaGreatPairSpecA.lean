/-
  The model's functions on pairs: contracts. Membership; values in range; a way along the pairs.
-/
import Derived.Test.YtceiocdemhkcdaaGreatPairMath
import Derived.Test.YtceiocdemhkcdaaGreatPairMem
import Derived.Test.YtceiocdemhkcdaaGreatItemSpec
import Derived.Test.YtceiocdemhkcdaaGreatItemIds
import Derived.Test.YtceiocdemhkcdaaGreatIntsAt
import Derived.Test.YtceiocdemhkcdaaGreatHasInts
namespace Go.Proofs.YtceiocdemhkcdaaGreat.num
set_option maxRecDepth 20000
open Go.RowKit
set_option linter.unusedVariables false



def ValidP (ps : List (Int × Int)) : Prop := (∀ p, p ∈ ps → InR p.1 ∧ InR p.2) ∧ ps.length ≤ 8
/-- l3Valid. -/
theorem valid_of (w : World) (B : Nat) (A : Option Addr) (n c : Nat) (ps : List (Int × Int)) (hi : Pairs w B A n ps) (hn : n ≤ 1048576) (b : Bool) (hb : b = true ↔ ValidP ps) :
    Calls Tryz.prog 173 #[.slice A n c] w fun e w' => e = .returned (.bool b) ∧ w = w' := by
  have HX := Lib.hid hi
  have HB := Lib.hid hb
  clear hi hb
  go_enter Tryz.func173, Tryz.ntmps173
  go_wp2
  go_loopw [3] (fun i wr => ∃ k : Nat, k ≤ n ∧ i = .int .i64 k ∧ (∀ p ∈ ps.take k, InR p.1 ∧ InR p.2) ∧ wr = w) (fun i _ => n - (intOf i).toNat)
  case atStart => exact ⟨0, Nat.zero_le _, rfl, by simp, rfl⟩
  case round =>
    obtain ⟨k, hk, rfl, hne, rfl⟩ := hrel
    have HN := Lib.hid hne
    clear hne
    by_cases hlt : k < n
    · obtain ⟨b1, off, x, y, rfl, hb1, hat, hc1, hc2⟩ := HX.out.at k hlt
      have HT := Lib.hid hat
      obtain ⟨q1, hq1⟩ := bool_of (0 ≤ x ∧ x ≤ 9)
      obtain ⟨q2, hq2⟩ := bool_of (0 ≤ y ∧ y ≤ 9)
      have HQ1 := Lib.hid hq1
      have HQ2 := Lib.hid hq2
      clear hat hq1 hq2
      have hbad : (q1 && q2) = false → b = false := fun hq => by
        cases b
        · rfl
        · have h := (HB.out.1 rfl).1 (x, y) (List.mem_of_getElem? HT.out)
          rw [HQ1.out.2 h.1, HQ2.out.2 h.2] at hq
          cases hq
      have HBad := Lib.hid hbad
      clear hbad
      go_wp2_with fail
      refine (in_of x 0 9 q1 HQ1.out _).mono ?_
      rintro e w1 ⟨rfl, rfl⟩
      cases q1
      · obtain rfl : b = false := HBad.out rfl
        go_wp2
        go_ret
        exact ⟨rfl, rfl⟩
      · go_wp2_with fail
        refine (in_of y 0 9 q2 HQ2.out _).mono ?_
        rintro e w1 ⟨rfl, rfl⟩
        cases q2
        · obtain rfl : b = false := HBad.out rfl
          go_wp2
          go_ret
          exact ⟨rfl, rfl⟩
        · go_wp2
          go_roundw
          case rel =>
            refine ⟨k + 1, by omega, by go_num, ?_, by first | rfl | trivial⟩
            rw [ptake_at HT.out]
            intro z hz
            rcases List.mem_append.1 hz with hz | hz
            · exact HN.out z hz
            · rw [List.mem_singleton.1 hz]; exact ⟨HQ1.out.1 (by first | rfl | trivial), HQ2.out.1 (by first | rfl | trivial)⟩
          case measure => simp [intOf]; omega
    · obtain rfl : k = n := by omega
      have h := HN.out
      rw [ptake_all HX.out.1] at h
      have HH := Lib.hid h
      clear h
      by_cases h8 : (k : Int) ≤ 8
      · obtain rfl : b = true := HB.out.2 ⟨HH.out, by rw [HX.out.1]; omega⟩
        go_wp2
        go_ret
        exact ⟨by simp, rfl⟩
      · obtain rfl : b = false := by
          cases b
          · rfl
          · have := (HB.out.1 rfl).2
            rw [HX.out.1] at this
            omega
        go_wp2
        go_ret
        exact ⟨by simp, rfl⟩

/-! ### a search -/
/-- What has been seen from a on: those before place i wholly looked at, the one at place i as far as the k-th pair. -/
structure Seen (ps : List (Int × Int)) (a b : Int) (S : List Int) (i k : Nat) : Prop where
  nodup : S.Nodup
  first : a ∈ S
  src : ∀ s, s ∈ S → s = a ∨ Reach ps a s
  sub : ∀ s, s ∈ S → s = a ∨ s ∈ ps.map Prod.snd
  done : ∀ (j : Nat) (s : Int), j < i → S[j]? = some s → ∀ p, p ∈ ps → p.1 = s → p.2 ≠ b ∧ p.2 ∈ S
  part : ∀ s : Int, S[i]? = some s → ∀ p, p ∈ ps.take k → p.1 = s → p.2 ≠ b ∧ p.2 ∈ S
theorem Seen.start (ps : List (Int × Int)) (a b : Int) : Seen ps a b [a] 0 0 :=
  ⟨by simp, by simp, fun s hs => .inl (by simpa using hs), fun s hs => .inl (by simpa using hs), fun j s hj => by omega, fun s _ p hp => by simp at hp⟩
theorem Seen.len {ps : List (Int × Int)} {a b : Int} {S : List Int} {i k : Nat} (h : Seen ps a b S i k) : S.length ≤ ps.length + 1 := by
  have := length_le_of_subset S (a :: ps.map Prod.snd) h.nodup fun s hs => by
    rcases h.sub s hs with rfl | hs
    · simp
    · exact List.mem_cons_of_mem _ hs
  simpa using this
theorem Seen.skip {ps : List (Int × Int)} {a b s : Int} {S : List Int} {i k : Nat} {p : Int × Int} (h : Seen ps a b S i k) (hs : S[i]? = some s) (hp : ps[k]? = some p) (hne : p.1 ≠ s) : Seen ps a b S i (k + 1) :=
  ⟨h.nodup, h.first, h.src, h.sub, h.done, fun s' hs' q hq e => by
    rw [ptake_at hp] at hq
    rcases List.mem_append.1 hq with hq | hq
    · exact h.part s' hs' q hq e
    · obtain rfl := List.mem_singleton.1 hq
      rw [hs] at hs'
      exact absurd (e.trans (Option.some.inj hs').symm) hne⟩
theorem Seen.hit {ps : List (Int × Int)} {a b : Int} {S : List Int} {i k : Nat} {p : Int × Int} (h : Seen ps a b S i k) (hs : S[i]? = some p.1) (hp : ps[k]? = some p) (hb : p.2 = b) : Reach ps a b := by
  have hm : (p.1, b) ∈ ps := by rw [← hb]; exact List.mem_of_getElem? hp
  rcases h.src _ (List.mem_of_getElem? hs) with e | r
  · exact .one (by rw [← e]; exact hm)
  · exact r.trans (.one hm)
theorem Seen.old {ps : List (Int × Int)} {a b : Int} {S : List Int} {i k : Nat} {p : Int × Int} (h : Seen ps a b S i k) (hs : S[i]? = some p.1) (hp : ps[k]? = some p) (hb : p.2 ≠ b) (hm : p.2 ∈ S) : Seen ps a b S i (k + 1) :=
  ⟨h.nodup, h.first, h.src, h.sub, h.done, fun s' hs' q hq e => by
    rw [ptake_at hp] at hq
    rcases List.mem_append.1 hq with hq | hq
    · exact h.part s' hs' q hq e
    · obtain rfl := List.mem_singleton.1 hq
      exact ⟨hb, hm⟩⟩
theorem Seen.more {ps : List (Int × Int)} {a b : Int} {S : List Int} {i k : Nat} {p : Int × Int} (h : Seen ps a b S i k) (hs : S[i]? = some p.1) (hp : ps[k]? = some p) (hb : p.2 ≠ b) (hm : p.2 ∉ S) : Seen ps a b (S ++ [p.2]) i (k + 1) := by
  have hpm := List.mem_of_getElem? hp
  have hi : i < S.length := by
    rcases Nat.lt_or_ge i S.length with h' | h'
    · exact h'
    · rw [List.getElem?_eq_none h'] at hs; cases hs
  refine ⟨?_, List.mem_append_left _ h.first, fun s hs' => ?_, fun s hs' => ?_, fun j s hj hs' q hq e => ?_, fun s' hs' q hq e => ?_⟩
  · rw [List.nodup_append]
    exact ⟨h.nodup, by simp, fun x hx y hy e => hm (by rw [← List.mem_singleton.1 hy, ← e]; exact hx)⟩
  · rcases List.mem_append.1 hs' with hs' | hs'
    · exact h.src s hs'
    · rw [List.mem_singleton.1 hs']
      rcases h.src _ (List.mem_of_getElem? hs) with e | r
      · exact .inr (.one (by rw [← e]; exact hpm))
      · exact .inr (r.trans (.one hpm))
  · rcases List.mem_append.1 hs' with hs' | hs'
    · exact h.sub s hs'
    · rw [List.mem_singleton.1 hs']
      exact .inr (List.mem_map.2 ⟨p, hpm, rfl⟩)
  · rw [List.getElem?_append_left (by omega)] at hs'
    obtain ⟨h1, h2⟩ := h.done j s hj hs' q hq e
    exact ⟨h1, List.mem_append_left _ h2⟩
  · rw [List.getElem?_append_left hi] at hs'
    rw [ptake_at hp] at hq
    rcases List.mem_append.1 hq with hq | hq
    · obtain ⟨h1, h2⟩ := h.part s' hs' q hq e
      exact ⟨h1, List.mem_append_left _ h2⟩
    · obtain rfl := List.mem_singleton.1 hq
      exact ⟨hb, List.mem_append_right _ (by simp)⟩
theorem Seen.next {ps : List (Int × Int)} {a b : Int} {S : List Int} {i k : Nat} (h : Seen ps a b S i k) (hk : k = ps.length) : Seen ps a b S (i + 1) 0 :=
  ⟨h.nodup, h.first, h.src, h.sub, fun j s hj hs q hq e => by
    rcases Nat.lt_or_ge j i with h' | h'
    · exact h.done j s h' hs q hq e
    · obtain rfl : j = i := by omega
      exact h.part s hs q (by rw [hk, List.take_length]; exact hq) e, fun s _ q hq => by simp at hq⟩
theorem Seen.fin {ps : List (Int × Int)} {a b : Int} {S : List Int} {i k : Nat} (h : Seen ps a b S i k) (hi : S.length ≤ i) : ¬ Reach ps a b := by
  have step : ∀ s, s ∈ S → ∀ p, p ∈ ps → p.1 = s → p.2 ≠ b ∧ p.2 ∈ S := fun s hs p hp e => by
    obtain ⟨j, hj, hjs⟩ := List.getElem_of_mem hs
    exact h.done j s (by omega) (by rw [List.getElem?_eq_getElem hj, hjs]) p hp e
  have key : ∀ x y, Reach ps x y → x ∈ S → y ≠ b := by
    intro x y r
    induction r with
    | one hm => exact fun hx => (step _ hx _ hm rfl).1
    | more hm _ ih => exact fun hx => ih (step _ hx _ hm rfl).2
  exact fun r => key a b r h.first rfl
end Go.Proofs.YtceiocdemhkcdaaGreat.num
