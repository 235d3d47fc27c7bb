/-
  The program's tastes: the methods behind the interface, and how two ranks are compared.
-/
import Derived.Test.YtnjnlcmddcjcfaaWishSpecD
import Derived.Test.YtnjnlcmddcjcfaaWishVal
namespace Go.Proofs.Ytnjnlcmddcjcfaa.num
set_option maxRecDepth 20000
open Go.RowKit
set_option linter.unusedVariables false

theorem nearRank (w : World) (b v : Int) (hb : InR b) (hv : InR v) :
    Calls Try.prog 116 #[.agg #[.int .i64 b], .int .i64 v] w fun e w' => e = .returned (.tuple #[.int .i64 (if v < b then b - v else v - b), .bool true]) ∧ Below w.heap.size w w' := by
  obtain ⟨b0, b9⟩ := hb
  obtain ⟨v0, v9⟩ := hv
  by_cases h : v < b
  · rw [if_pos h]
    go_enter Try.func116, Try.ntmps116
    go_wp2
    go_ret2
    exact ⟨rfl, (Below.refl _ w).alloc (Nat.le_refl _) _⟩
  · rw [if_neg h]
    go_enter Try.func116, Try.ntmps116
    go_wp2
    go_ret2
    exact ⟨rfl, (Below.refl _ w).alloc (Nat.le_refl _) _⟩
theorem cmpInt (w : World) (x y : Int) :
    Calls Try.prog 118 #[.int .i64 x, .int .i64 y] w fun e w' => e = .returned (.int .i64 (if x < y then -1 else if y < x then 1 else 0)) ∧ w = w' := by
  have nn : ∀ (w : World) (x : Int), Calls Try.prog 119 #[.int .i64 x] w fun e w' => e = .returned (.bool false) ∧ w = w' := fun w x => by
    have hx : (x != x) = false := by simp
    go_enter Try.func119, Try.ntmps119
    go_wp2
    go_ret
    exact ⟨rfl, rfl⟩
  have HNN := Lib.hid nn
  clear nn
  by_cases h : x < y
  · rw [if_pos h]
    go_enter Try.func118, Try.ntmps118
    go_wp2_with fail
    refine (HNN.out _ x).mono ?_
    rintro e w1 ⟨rfl, rfl⟩
    go_wp2_with fail
    refine (HNN.out _ y).mono ?_
    rintro e w1 ⟨rfl, rfl⟩
    go_wp2
    go_ret
    exact ⟨rfl, rfl⟩
  · by_cases h2 : y < x
    · rw [if_neg h, if_pos h2]
      go_enter Try.func118, Try.ntmps118
      go_wp2_with fail
      refine (HNN.out _ x).mono ?_
      rintro e w1 ⟨rfl, rfl⟩
      go_wp2_with fail
      refine (HNN.out _ y).mono ?_
      rintro e w1 ⟨rfl, rfl⟩
      go_wp2
      go_ret
      exact ⟨rfl, rfl⟩
    · rw [if_neg h, if_neg h2]
      go_enter Try.func118, Try.ntmps118
      go_wp2_with fail
      refine (HNN.out _ x).mono ?_
      rintro e w1 ⟨rfl, rfl⟩
      go_wp2_with fail
      refine (HNN.out _ y).mono ?_
      rintro e w1 ⟨rfl, rfl⟩
      go_wp2
      go_ret
      exact ⟨rfl, rfl⟩
theorem near_rank_m (b : Int) (w : World) : (method 265 126 (.agg #[.int .i64 b]) "loop.example/g01987/impl.rank").run Try.prog w = .ok (116, .agg #[.int .i64 b]) w := by kernel_rfl
theorem near_cmp_m (b : Int) (w : World) : (method 265 126 (.agg #[.int .i64 b]) "loop.example/g01987/impl.compare").run Try.prog w = .ok (115, .agg #[.int .i64 b]) w := by kernel_rfl
theorem among_rank_m (A : Option Addr) (n c : Nat) (w : World) : (method 265 128 (.agg #[.slice A n c]) "loop.example/g01987/impl.rank").run Try.prog w = .ok (121, .agg #[.slice A n c]) w := by kernel_rfl
theorem among_cmp_m (A : Option Addr) (n c : Nat) (w : World) : (method 265 128 (.agg #[.slice A n c]) "loop.example/g01987/impl.compare").run Try.prog w = .ok (120, .agg #[.slice A n c]) w := by kernel_rfl
theorem order_rank_m (o : Option Nat) (w : World) : (method 265 134 (.agg #[.map o]) "loop.example/g01987/impl.rank").run Try.prog w = .ok (125, .agg #[.map o]) w := by kernel_rfl
theorem order_cmp_m (o : Option Nat) (w : World) : (method 265 134 (.agg #[.map o]) "loop.example/g01987/impl.compare").run Try.prog w = .ok (124, .agg #[.map o]) w := by kernel_rfl
theorem near_cmp_n (b : Int) (w : World) : (nilAhead 265 126 (.agg #[.int .i64 b]) "loop.example/g01987/impl.compare").run Try.prog w = .ok (some false) w := by kernel_rfl
theorem among_cmp_n (A : Option Addr) (n c : Nat) (w : World) : (nilAhead 265 128 (.agg #[.slice A n c]) "loop.example/g01987/impl.compare").run Try.prog w = .ok (some false) w := by kernel_rfl
theorem order_cmp_n (o : Option Nat) (w : World) : (nilAhead 265 134 (.agg #[.map o]) "loop.example/g01987/impl.compare").run Try.prog w = .ok (some false) w := by kernel_rfl
set_option maxRecDepth 20000 in
theorem cmpNear (w : World) (b : Int) (x y : Int) (hb : InR b) (hx : InR x) (hy : InR y) :
    Calls Try.prog 117 #[nearI b, .int .i64 x, .int .i64 y] w fun e w' => e = .returned (.int .i64 (if (if x < b then b - x else x - b) < (if y < b then b - y else y - b) then 1 else if (if y < b then b - y else y - b) < (if x < b then b - x else x - b) then -1 else 0)) ∧ Below w.heap.size w w' := by
  have hm := near_rank_m b
  obtain ⟨rx, hrx⟩ : ∃ r, r = (if x < b then b - x else x - b) := ⟨_, rfl⟩
  obtain ⟨ry, hry⟩ : ∃ r, r = (if y < b then b - y else y - b) := ⟨_, rfl⟩
  have HX := Lib.hid (fun (w1 : World) (_ : Below w.heap.size w w1) => nearRank w1 b x hb hx)
  have HY := Lib.hid (fun (w1 : World) (_ : Below w.heap.size w w1) => nearRank w1 b y hb hy)
  rw [← hrx] at HX ⊢
  rw [← hry] at HY ⊢
  obtain ⟨z, hz⟩ : ∃ z : Int, (if rx < ry then 1 else if ry < rx then -1 else 0) = z := ⟨_, rfl⟩
  rw [hz]
  have HZ : Hid ((if ry < rx then (-1 : Int) else if rx < ry then 1 else 0) = z) := Lib.hid (by rw [← hz]; split <;> split <;> first | rfl | omega)
  clear hrx hry hz
  unfold nearI
  go_enter Try.func117, Try.ntmps117
  go_wp2_with fail
  refine (HX.out _ (Below.refl _ _)).mono ?_
  rintro e w1 ⟨rfl, hb1⟩
  have HB1 := Lib.hid hb1
  clear hb1
  go_wp2_with fail
  refine (HY.out _ HB1.out).mono ?_
  rintro e w2 ⟨rfl, hb2⟩
  have HB2 := Lib.hid (HB1.out.trans (hb2.mono HB1.out.size))
  clear hb2 hm
  go_wp2_with fail
  refine (cmpInt _ ry rx).mono ?_
  rintro e w3 ⟨rfl, rfl⟩
  rw [HZ.out]
  go_wp2
  go_ret
  exact ⟨rfl, HB2.out⟩

/-- slices.Index. -/
theorem idx_of (w : World) (B : Nat) (A : Option Addr) (n c : Nat) (xs : List Int) (hi : Ints w B A n xs) (hn : n ≤ 1048576) (x : Int) :
    Calls Try.prog 123 #[.slice A n c, .int .i64 x] w fun e w' => (∃ r : Int, e = .returned (.int .i64 r) ∧ (0 ≤ r ↔ x ∈ xs)) ∧ w = w' := by
  have HX := Lib.hid hi
  clear hi
  go_enter Try.func123, Try.ntmps123
  go_wp2
  go_loopw [8] (fun i wr => ∃ k : Nat, k ≤ n ∧ i = .int .i64 k ∧ x ∉ xs.take k ∧ w = wr) (fun i _ => n - (intOf i).toNat)
  case atStart => exact ⟨0, Nat.zero_le _, rfl, by simp, rfl⟩
  case round =>
    obtain ⟨k, hk, rfl, hno, rfl⟩ := hrel
    have HNo := Lib.hid hno
    clear hno
    by_cases hlt : k < n
    · obtain ⟨b1, off, y, rfl, hb1, hat, hc⟩ := HX.out.at k hlt
      have HT := Lib.hid hat
      have hlt' : (k : Int) < (n : Int) := by omega
      clear hat
      by_cases he : x = y
      · subst he
        go_wp2
        go_ret
        exact ⟨⟨k, rfl, ⟨fun _ => List.mem_of_getElem? HT.out, fun _ => by omega⟩⟩, rfl⟩
      · have he' : (x == y) = false := by simpa using he
        have HE := Lib.hid he
        clear he
        go_wp2
        go_roundw
        case rel =>
          refine ⟨k + 1, by omega, by go_num, ?_, by first | rfl | trivial⟩
          rw [ptake_at HT.out]
          intro hm
          rcases List.mem_append.1 hm with hm | hm
          · exact HNo.out hm
          · exact HE.out (List.mem_singleton.1 hm)
        case measure => simp [intOf]; omega
    · obtain rfl : k = n := by omega
      have h := HNo.out
      rw [ptake_all HX.out.1] at h
      have HH := Lib.hid h
      clear h
      go_wp2
      go_ret
      exact ⟨⟨-1, rfl, ⟨fun h => by omega, fun h => absurd h HH.out⟩⟩, rfl⟩
theorem contains_of (w : World) (B : Nat) (A : Option Addr) (n c : Nat) (xs : List Int) (hi : Ints w B A n xs) (hn : n ≤ 1048576) (x : Int) (q : Bool) (hq : q = true ↔ x ∈ xs) :
    Calls Try.prog 122 #[.slice A n c, .int .i64 x] w fun e w' => e = .returned (.bool q) ∧ w = w' := by
  have HX := Lib.hid hi
  have HQ := Lib.hid hq
  clear hi hq
  go_enter Try.func122, Try.ntmps122
  go_wp2_with fail
  refine (idx_of w B A n c xs HX.out hn x).mono ?_
  rintro e w1 ⟨⟨r, rfl, hr⟩, rfl⟩
  by_cases h0 : 0 ≤ r
  · obtain rfl : q = true := HQ.out.2 (hr.1 h0)
    clear hr
    go_wp2
    go_ret
    exact ⟨by simp, rfl⟩
  · obtain rfl : q = false := by
      cases q
      · rfl
      · exact absurd (hr.2 (HQ.out.1 rfl)) h0
    clear hr
    go_wp2
    go_ret
    exact ⟨by simp; omega, rfl⟩
theorem amongRank (w : World) (B : Nat) (A : Option Addr) (n c : Nat) (xs : List Int) (hi : Ints w B A n xs) (hB : B ≤ w.heap.size) (hn : n ≤ 1048576) (x : Int) :
    Calls Try.prog 121 #[.agg #[.slice A n c], .int .i64 x] w fun e w' => e = .returned (.tuple #[.int .i64 (if x ∈ xs then 0 else 1), .bool true]) ∧ Below w.heap.size w w' := by
  have HX := Lib.hid hi
  have HB1 : Hid (∀ o : Obj, Below B w (w.alloc o)) := Lib.hid fun o => (Below.refl B w).alloc hB _
  have HW1 : Hid (∀ o : Obj, Below w.heap.size w (w.alloc o)) := Lib.hid fun o => (Below.refl _ w).alloc (Nat.le_refl _) _
  obtain ⟨q, hq⟩ := bool_of (x ∈ xs)
  have hz : (if x ∈ xs then (0 : Int) else 1) = if q = true then 0 else 1 := by simp only [hq]
  rw [hz]
  have HQ := Lib.hid hq
  clear hi hq hz
  go_enter Try.func121, Try.ntmps121
  go_wp2_with fail
  refine (contains_of _ B A n c xs (HX.out.below (HB1.out _)) hn x q HQ.out).mono ?_
  rintro e w1 ⟨rfl, rfl⟩
  cases q
  · go_wp2
    go_ret2
    exact ⟨rfl, HW1.out _⟩
  · go_wp2
    go_ret2
    exact ⟨rfl, HW1.out _⟩
set_option maxRecDepth 20000 in
theorem cmpAmong (w : World) (B : Nat) (A : Option Addr) (n c : Nat) (xs : List Int) (x y : Int) (hi : Ints w B A n xs) (hB : B ≤ w.heap.size) (hn : n ≤ 1048576) :
    Calls Try.prog 117 #[amongI A n c, .int .i64 x, .int .i64 y] w fun e w' => e = .returned (.int .i64 (if (if x ∈ xs then (0 : Int) else 1) < (if y ∈ xs then (0 : Int) else 1) then 1 else if (if y ∈ xs then (0 : Int) else 1) < (if x ∈ xs then (0 : Int) else 1) then -1 else 0)) ∧ Below w.heap.size w w' := by
  have hm := among_rank_m A n c
  obtain ⟨rx, hrx⟩ : ∃ r, r = (if x ∈ xs then (0 : Int) else 1) := ⟨_, rfl⟩
  obtain ⟨ry, hry⟩ : ∃ r, r = (if y ∈ xs then (0 : Int) else 1) := ⟨_, rfl⟩
  have HX := Lib.hid (fun (w1 : World) (h : Below w.heap.size w w1) => amongRank w1 B A n c xs (hi.below (h.mono hB)) (Nat.le_trans hB h.size) hn x)
  have HY := Lib.hid (fun (w1 : World) (h : Below w.heap.size w w1) => amongRank w1 B A n c xs (hi.below (h.mono hB)) (Nat.le_trans hB h.size) hn y)
  rw [← hrx] at HX ⊢
  rw [← hry] at HY ⊢
  obtain ⟨z, hz⟩ : ∃ z : Int, (if rx < ry then 1 else if ry < rx then -1 else 0) = z := ⟨_, rfl⟩
  rw [hz]
  have HZ : Hid ((if ry < rx then (-1 : Int) else if rx < ry then 1 else 0) = z) := Lib.hid (by rw [← hz]; split <;> split <;> first | rfl | omega)
  clear hrx hry hz
  unfold amongI
  go_enter Try.func117, Try.ntmps117
  go_wp2_with fail
  refine (HX.out _ (Below.refl _ _)).mono ?_
  rintro e w1 ⟨rfl, hb1⟩
  have HB1 := Lib.hid hb1
  clear hb1
  go_wp2_with fail
  refine (HY.out _ HB1.out).mono ?_
  rintro e w2 ⟨rfl, hb2⟩
  have HB2 := Lib.hid (HB1.out.trans (hb2.mono HB1.out.size))
  clear hb2 hm
  go_wp2_with fail
  refine (cmpInt _ ry rx).mono ?_
  rintro e w3 ⟨rfl, rfl⟩
  rw [HZ.out]
  go_wp2
  go_ret
  exact ⟨rfl, HB2.out⟩

end Go.Proofs.Ytnjnlcmddcjcfaa.num
