/-
  The program's tastes: the methods behind the interface, and how two ranks are compared.
-/
import Derived.Test.YtceiocdemhkcdaaGreatWishSpecD
import Derived.Test.YtceiocdemhkcdaaGreatWishVal
import Derived.Test.YtceiocdemhkcdaaGreatHasInts
namespace Go.Proofs.YtceiocdemhkcdaaGreat.num
set_option maxRecDepth 20000
open Go.RowKit
set_option linter.unusedVariables false

theorem nearRank (w : World) (b v : Int) (hb : InR b) (hv : InR v) :
    Calls Tryz.prog 223 #[.agg #[.int .i64 b], .int .i64 v] w fun e w' => e = .returned (.tuple #[.int .i64 (if v < b then b - v else v - b), .bool true]) ∧ Below w.heap.size w w' := by
  obtain ⟨b0, b9⟩ := hb
  obtain ⟨v0, v9⟩ := hv
  by_cases h : v < b
  · rw [if_pos h]
    go_enter Tryz.func223, Tryz.ntmps223
    go_wp2
    go_ret2
    exact ⟨rfl, (Below.refl _ w).alloc (Nat.le_refl _) _⟩
  · rw [if_neg h]
    go_enter Tryz.func223, Tryz.ntmps223
    go_wp2
    go_ret2
    exact ⟨rfl, (Below.refl _ w).alloc (Nat.le_refl _) _⟩
theorem cmpInt (w : World) (x y : Int) :
    Calls Tryz.prog 225 #[.int .i64 x, .int .i64 y] w fun e w' => e = .returned (.int .i64 (if x < y then -1 else if y < x then 1 else 0)) ∧ w = w' := by
  have nn : ∀ (w : World) (x : Int), Calls Tryz.prog 226 #[.int .i64 x] w fun e w' => e = .returned (.bool false) ∧ w = w' := fun w x => by
    have hx : (x != x) = false := by simp
    go_enter Tryz.func226, Tryz.ntmps226
    go_wp2
    go_ret
    exact ⟨rfl, rfl⟩
  have HNN := Lib.hid nn
  clear nn
  by_cases h : x < y
  · rw [if_pos h]
    go_enter Tryz.func225, Tryz.ntmps225
    go_wp2_with fail
    refine (HNN.out _ x).mono ?_
    rintro e w1 ⟨rfl, rfl⟩
    go_wp2_with fail
    refine (HNN.out _ y).mono ?_
    rintro e w1 ⟨rfl, rfl⟩
    go_wp2
    go_ret
    exact ⟨rfl, rfl⟩
  · by_cases h2 : y < x
    · rw [if_neg h, if_pos h2]
      go_enter Tryz.func225, Tryz.ntmps225
      go_wp2_with fail
      refine (HNN.out _ x).mono ?_
      rintro e w1 ⟨rfl, rfl⟩
      go_wp2_with fail
      refine (HNN.out _ y).mono ?_
      rintro e w1 ⟨rfl, rfl⟩
      go_wp2
      go_ret
      exact ⟨rfl, rfl⟩
    · rw [if_neg h, if_neg h2]
      go_enter Tryz.func225, Tryz.ntmps225
      go_wp2_with fail
      refine (HNN.out _ x).mono ?_
      rintro e w1 ⟨rfl, rfl⟩
      go_wp2_with fail
      refine (HNN.out _ y).mono ?_
      rintro e w1 ⟨rfl, rfl⟩
      go_wp2
      go_ret
      exact ⟨rfl, rfl⟩
theorem near_rank_m (b : Int) (w : World) : (method 363 214 (.agg #[.int .i64 b]) "loop.example/g01987/impl.rank").run Tryz.prog w = .ok (223, .agg #[.int .i64 b]) w := by kernel_rfl
theorem near_cmp_m (b : Int) (w : World) : (method 363 214 (.agg #[.int .i64 b]) "loop.example/g01987/impl.compare").run Tryz.prog w = .ok (222, .agg #[.int .i64 b]) w := by kernel_rfl
theorem among_rank_m (A : Option Addr) (n c : Nat) (w : World) : (method 363 216 (.agg #[.slice A n c]) "loop.example/g01987/impl.rank").run Tryz.prog w = .ok (228, .agg #[.slice A n c]) w := by kernel_rfl
theorem among_cmp_m (A : Option Addr) (n c : Nat) (w : World) : (method 363 216 (.agg #[.slice A n c]) "loop.example/g01987/impl.compare").run Tryz.prog w = .ok (227, .agg #[.slice A n c]) w := by kernel_rfl
theorem order_rank_m (o : Option Nat) (w : World) : (method 363 222 (.agg #[.map o]) "loop.example/g01987/impl.rank").run Tryz.prog w = .ok (231, .agg #[.map o]) w := by kernel_rfl
theorem order_cmp_m (o : Option Nat) (w : World) : (method 363 222 (.agg #[.map o]) "loop.example/g01987/impl.compare").run Tryz.prog w = .ok (230, .agg #[.map o]) w := by kernel_rfl
theorem near_cmp_n (b : Int) (w : World) : (nilAhead 363 214 (.agg #[.int .i64 b]) "loop.example/g01987/impl.compare").run Tryz.prog w = .ok (some false) w := by kernel_rfl
theorem among_cmp_n (A : Option Addr) (n c : Nat) (w : World) : (nilAhead 363 216 (.agg #[.slice A n c]) "loop.example/g01987/impl.compare").run Tryz.prog w = .ok (some false) w := by kernel_rfl
theorem order_cmp_n (o : Option Nat) (w : World) : (nilAhead 363 222 (.agg #[.map o]) "loop.example/g01987/impl.compare").run Tryz.prog w = .ok (some false) w := by kernel_rfl
set_option maxRecDepth 20000 in
theorem cmpNear (w : World) (b : Int) (x y : Int) (hb : InR b) (hx : InR x) (hy : InR y) :
    Calls Tryz.prog 224 #[nearI b, .int .i64 x, .int .i64 y] w fun e w' => e = .returned (.int .i64 (if (if x < b then b - x else x - b) < (if y < b then b - y else y - b) then 1 else if (if y < b then b - y else y - b) < (if x < b then b - x else x - b) then -1 else 0)) ∧ Below w.heap.size w w' := by
  have hm := near_rank_m b
  obtain ⟨rx, hrx⟩ : ∃ r, r = (if x < b then b - x else x - b) := ⟨_, rfl⟩
  obtain ⟨ry, hry⟩ : ∃ r, r = (if y < b then b - y else y - b) := ⟨_, rfl⟩
  have HX := Lib.hid (fun (w1 : World) (_ : Below w.heap.size w w1) => nearRank w1 b x hb hx)
  have HY := Lib.hid (fun (w1 : World) (_ : Below w.heap.size w w1) => nearRank w1 b y hb hy)
  rw [← hrx] at HX ⊢
  rw [← hry] at HY ⊢
  obtain ⟨z, hz⟩ : ∃ z : Int, (if rx < ry then 1 else if ry < rx then -1 else 0) = z := ⟨_, rfl⟩
  rw [hz]
  have HZ : Hid ((if ry < rx then (-1 : Int) else if rx < ry then 1 else 0) = z) := Lib.hid (by rw [← hz]; split <;> split <;> first | rfl | omega)
  clear hrx hry hz
  unfold nearI
  go_enter Tryz.func224, Tryz.ntmps224
  go_wp2_with fail
  refine (HX.out _ (Below.refl _ _)).mono ?_
  rintro e w1 ⟨rfl, hb1⟩
  have HB1 := Lib.hid hb1
  clear hb1
  go_wp2_with fail
  refine (HY.out _ HB1.out).mono ?_
  rintro e w2 ⟨rfl, hb2⟩
  have HB2 := Lib.hid (HB1.out.trans (hb2.mono HB1.out.size))
  clear hb2 hm
  go_wp2_with fail
  refine (cmpInt _ ry rx).mono ?_
  rintro e w3 ⟨rfl, rfl⟩
  rw [HZ.out]
  go_wp2
  go_ret
  exact ⟨rfl, HB2.out⟩

theorem amongRank (w : World) (B : Nat) (A : Option Addr) (n c : Nat) (xs : List Int) (hi : Ints w B A n xs) (hB : B ≤ w.heap.size) (hn : n ≤ 1048576) (x : Int) :
    Calls Tryz.prog 228 #[.agg #[.slice A n c], .int .i64 x] w fun e w' => e = .returned (.tuple #[.int .i64 (if x ∈ xs then 0 else 1), .bool true]) ∧ Below w.heap.size w w' := by
  have HX := Lib.hid hi
  have HB1 : Hid (∀ o : Obj, Below B w (w.alloc o)) := Lib.hid fun o => (Below.refl B w).alloc hB _
  have HW1 : Hid (∀ o : Obj, Below w.heap.size w (w.alloc o)) := Lib.hid fun o => (Below.refl _ w).alloc (Nat.le_refl _) _
  obtain ⟨q, hq⟩ := bool_of (x ∈ xs)
  have hz : (if x ∈ xs then (0 : Int) else 1) = if q = true then 0 else 1 := by simp only [hq]
  rw [hz]
  have HQ := Lib.hid hq
  clear hi hq hz
  go_enter Tryz.func228, Tryz.ntmps228
  go_wp2_with fail
  refine (contains_of _ B A n c xs (HX.out.below (HB1.out _)) hn x q HQ.out).mono ?_
  rintro e w1 ⟨rfl, rfl⟩
  cases q
  · go_wp2
    go_ret2
    exact ⟨rfl, HW1.out _⟩
  · go_wp2
    go_ret2
    exact ⟨rfl, HW1.out _⟩
set_option maxRecDepth 20000 in
theorem cmpAmong (w : World) (B : Nat) (A : Option Addr) (n c : Nat) (xs : List Int) (x y : Int) (hi : Ints w B A n xs) (hB : B ≤ w.heap.size) (hn : n ≤ 1048576) :
    Calls Tryz.prog 224 #[amongI A n c, .int .i64 x, .int .i64 y] w fun e w' => e = .returned (.int .i64 (if (if x ∈ xs then (0 : Int) else 1) < (if y ∈ xs then (0 : Int) else 1) then 1 else if (if y ∈ xs then (0 : Int) else 1) < (if x ∈ xs then (0 : Int) else 1) then -1 else 0)) ∧ Below w.heap.size w w' := by
  have hm := among_rank_m A n c
  obtain ⟨rx, hrx⟩ : ∃ r, r = (if x ∈ xs then (0 : Int) else 1) := ⟨_, rfl⟩
  obtain ⟨ry, hry⟩ : ∃ r, r = (if y ∈ xs then (0 : Int) else 1) := ⟨_, rfl⟩
  have HX := Lib.hid (fun (w1 : World) (h : Below w.heap.size w w1) => amongRank w1 B A n c xs (hi.below (h.mono hB)) (Nat.le_trans hB h.size) hn x)
  have HY := Lib.hid (fun (w1 : World) (h : Below w.heap.size w w1) => amongRank w1 B A n c xs (hi.below (h.mono hB)) (Nat.le_trans hB h.size) hn y)
  rw [← hrx] at HX ⊢
  rw [← hry] at HY ⊢
  obtain ⟨z, hz⟩ : ∃ z : Int, (if rx < ry then 1 else if ry < rx then -1 else 0) = z := ⟨_, rfl⟩
  rw [hz]
  have HZ : Hid ((if ry < rx then (-1 : Int) else if rx < ry then 1 else 0) = z) := Lib.hid (by rw [← hz]; split <;> split <;> first | rfl | omega)
  clear hrx hry hz
  unfold amongI
  go_enter Tryz.func224, Tryz.ntmps224
  go_wp2_with fail
  refine (HX.out _ (Below.refl _ _)).mono ?_
  rintro e w1 ⟨rfl, hb1⟩
  have HB1 := Lib.hid hb1
  clear hb1
  go_wp2_with fail
  refine (HY.out _ HB1.out).mono ?_
  rintro e w2 ⟨rfl, hb2⟩
  have HB2 := Lib.hid (HB1.out.trans (hb2.mono HB1.out.size))
  clear hb2 hm
  go_wp2_with fail
  refine (cmpInt _ ry rx).mono ?_
  rintro e w3 ⟨rfl, rfl⟩
  rw [HZ.out]
  go_wp2
  go_ret
  exact ⟨rfl, HB2.out⟩

end Go.Proofs.YtceiocdemhkcdaaGreat.num
