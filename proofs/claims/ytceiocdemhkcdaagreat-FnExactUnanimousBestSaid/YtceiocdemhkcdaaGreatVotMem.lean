/-
  Voters (a slice of expressions) as the laws of chapter 12 meet them: what a slice of slices of nodes reads as; the laws' own measure of it.
-/
import Derived.Test.YtceiocdemhkcdaaGreatExpMem
namespace Go.Proofs.YtceiocdemhkcdaaGreat.num
set_option maxRecDepth 20000
open Go.RowKit
set_option linter.unusedVariables false
set_option linter.unusedSimpArgs false

/-- A voter: a slice of nodes, and what it reads as. -/
structure Vo where
  A : Option Addr
  n : Nat
  c : Nat
  ns : List Nd
def Vo.val (x : Vo) : Value := .slice x.A x.n x.c
def voC (x : Vo) : List Value := [.slice x.A x.n x.c]
theorem voC_len (x : Vo) : (voC x).length = 1 := rfl
theorem voC_one (x : Vo) : ∀ u ∈ voC x, u.oneCell' = true := by
  intro u hu
  simp only [voC, List.mem_singleton] at hu
  subst hu
  rfl
def Vo.dat (x : Vo) : List ND := x.ns.map Nd.dat
/-- A slice of voters that reads as gs, below block B. -/
structure Votes (w : World) (B : Nat) (A : Option Addr) (n : Nat) (gs : List Vo) : Prop where
  r : ReadG voC 1 w B A n gs
  x : ∀ x ∈ gs, Nodes w B x.A x.n x.ns
theorem Votes.below {w w' : World} {B : Nat} {A : Option Addr} {n : Nat} {gs : List Vo} (h : Votes w B A n gs) (hb : Below B w w') : Votes w' B A n gs := ⟨h.r.below hb, fun x hx => (h.x x hx).below hb⟩
theorem Votes.more {w : World} {B B' : Nat} {A : Option Addr} {n : Nat} {gs : List Vo} (h : Votes w B A n gs) (hB : B ≤ B') : Votes w B' A n gs := ⟨h.r.more hB, fun x hx => (h.x x hx).more hB⟩
theorem Votes.step {w w' : World} {A : Option Addr} {n : Nat} {gs : List Vo} (h : Votes w w.heap.size A n gs) (hb : Below w.heap.size w w') : Votes w' w'.heap.size A n gs := (h.below hb).more hb.size
theorem Votes.len {w : World} {B : Nat} {A : Option Addr} {n : Nat} {gs : List Vo} (h : Votes w B A n gs) : gs.length = n := h.r.len
theorem Votes.nil (w : World) (B : Nat) (A : Option Addr) : Votes w B A 0 [] := ⟨.nil _ _ _, by simp⟩
theorem Votes.at {w : World} {B : Nat} {A : Option Addr} {n : Nat} {gs : List Vo} (h : Votes w B A n gs) (k : Nat) (hk : k < n) :
    ∃ (b off : Nat) (x : Vo), A = some ⟨b, off, none⟩ ∧ b < B ∧ gs[k]? = some x ∧ Nodes w B x.A x.n x.ns ∧ w.cell? ⟨b, off + k, none⟩ = some (.slice x.A x.n x.c) := by
  obtain ⟨x, hx⟩ := h.r.get hk
  obtain ⟨b, off, h1, h2, h3⟩ := h.r.at' k x hx
  have h4 := h3 0 _ rfl
  rw [Nat.mul_one] at h4
  exact ⟨b, off, x, h1, h2, hx, h.x x (List.mem_of_getElem? hx), h4⟩
/-- What is short. -/
def ShortV (gs : List Vo) : Prop := ∀ x ∈ gs, x.n ≤ 1048576 ∧ ShortN x.ns
/-- How many nodes there are. -/
def sumV : List Vo → Nat
  | [] => 0
  | x :: r => x.n + sumV r
theorem sumV_snoc (l : List Vo) (x : Vo) : sumV (l ++ [x]) = sumV l + x.n := by
  induction l with
  | nil => simp [sumV]
  | cons y r ih => rw [List.cons_append]; simp only [sumV]; rw [ih]; omega
theorem votake_at {l : List Vo} {k : Nat} {x : Vo} (h : l[k]? = some x) : l.take (k + 1) = l.take k ++ [x] := by
  rw [List.take_add_one, h]; rfl
theorem votake_all {l : List Vo} {n : Nat} (h : l.length = n) : l.take n = l := List.take_of_length_le (by omega)
/-- What the arguments' bounds say. -/
def BigV (gs : List Vo) : Prop := ∀ x ∈ gs, x.n ≤ 9223372036854775807 ∧ ∀ y ∈ x.ns, y.t.Ln ≤ 9223372036854775807 ∧ y.t.Pn ≤ 9223372036854775807
set_option maxRecDepth 20000 in
theorem szVotes_c (w0 : World) (B : Nat) (A : Option Addr) (n c : Nat) (gs : List Vo) (hi : Votes w0 B A n gs) (hB : B ≤ w0.heap.size) (hn : n ≤ 9223372036854775807) (hN : BigV gs) (left : Int) (h0 : 0 ≤ left) (h1 : left ≤ 1048576) :
    Calls Tryz.prog 36 #[.slice A n c, .int .i64 left] w0 fun e w' => (∃ r : Int, e = .returned (.int .i64 r) ∧ (r = -1 ∨ (0 ≤ r ∧ r ≤ left ∧ n ≤ 1048576 ∧ (ShortV gs ∧ sumV gs ≤ 1048576)))) ∧ Below w0.heap.size w0 w' := by
  have HX := Lib.hid hi
  have HN := Lib.hid hN
  clear hi hN
  by_cases hle : (n : Int) ≤ left
  · go_enter Tryz.func36, Tryz.ntmps36
    go_wp2
    go_loopw [1, 5] (fun l i wr => ∃ (k : Nat) (r : Int), k ≤ n ∧ i = .int .i64 k ∧ l = .int .i64 r ∧ 0 ≤ r ∧ r + n + sumV (gs.take k) ≤ left ∧ ShortV (gs.take k) ∧ Below w0.heap.size w0 wr) (fun _ i _ => n - (intOf i).toNat)
    case atStart => exact ⟨0, left - n, Nat.zero_le _, rfl, rfl, by omega, by simp [sumV], by simp [ShortV], Below.refl _ _⟩
    case round =>
      obtain ⟨k, r, hk, rfl, rfl, hr0, hr1, hsh, hbel⟩ := hrel
      have HS := Lib.hid hsh
      have HB := Lib.hid hbel
      clear hsh
      by_cases hlt : k < n
      · obtain ⟨b, off, x, rfl, hb, hat, hns, g0⟩ := HX.out.at k hlt
        have HT := Lib.hid hat
        have g0 := (hbel.cell (p := ⟨b, off + k, none⟩) (Nat.lt_of_lt_of_le hb hB)).trans g0
        have HC : Hid (Calls Tryz.prog 74 #[.slice x.A x.n x.c, .int .i64 r] wr fun e w' => (∃ r' : Int, e = .returned (.int .i64 r') ∧ (r' = -1 ∨ (0 ≤ r' ∧ r' + x.n ≤ r ∧ x.n ≤ 1048576 ∧ ShortN x.ns))) ∧ Below wr.heap.size wr w') := Lib.hid (by
          obtain ⟨m1, m2⟩ := HN.out x (List.mem_of_getElem? hat)
          exact szNodes_n wr B x.A x.n x.c x.ns (hns.below (hbel.mono hB)) (Nat.le_trans hB hbel.size) m1 m2 r hr0 (by omega))
        have hsum : sumV (gs.take (k + 1)) = sumV (gs.take k) + x.n := by rw [votake_at hat, sumV_snoc]
        clear hat hbel hns
        go_wp2_with fail
        refine HC.out.mono ?_
        rintro e w1 ⟨⟨r', rfl, hr'⟩, hb1⟩
        have HB1 := Lib.hid (below_on HB.out hb1)
        clear hb1 g0 HC
        rcases hr' with rfl | ⟨r0', r1', hx', hs'⟩
        · go_wp2
          go_ret
          exact ⟨⟨_, rfl, .inl rfl⟩, HB1.out⟩
        · have HS1 : Hid (ShortV (gs.take (k + 1))) := Lib.hid fun y hy => by
            rw [votake_at HT.out] at hy
            rcases List.mem_append.1 hy with h | h
            · exact HS.out y h
            · rw [List.mem_singleton.1 h]; exact ⟨hx', hs'⟩
          have HSum : Hid (r' + n + sumV (gs.take (k + 1)) ≤ left) := Lib.hid (by rw [hsum]; omega)
          have hd : decide (r' < 0) = false := by simp; omega
          clear hs' hsum hr1
          go_wp2
          go_roundw
          case rel => exact ⟨k + 1, r', by omega, by go_num, rfl, r0', HSum.out, HS1.out, HB1.out⟩
          case measure => simp [intOf]; omega
      · obtain rfl : k = n := by omega
        have HS1 : Hid (ShortV gs) := Lib.hid (by have := HS.out; rwa [votake_all HX.out.len] at this)
        have hs1 := hr1
        rw [votake_all HX.out.len] at hs1
        have HF : Hid (0 ≤ r ∧ r ≤ left ∧ k ≤ 1048576 ∧ sumV gs ≤ 1048576) := Lib.hid (by omega)
        clear hbel hr1 hs1
        go_wp2
        go_ret
        exact ⟨⟨r, rfl, .inr ⟨HF.out.1, HF.out.2.1, HF.out.2.2.1, HS1.out, HF.out.2.2.2⟩⟩, HB.out⟩
  · go_enter Tryz.func36, Tryz.ntmps36
    go_wp2
    go_ret
    exact ⟨⟨_, rfl, .inl rfl⟩, Below.refl _ _⟩
end Go.Proofs.YtceiocdemhkcdaaGreat.num
