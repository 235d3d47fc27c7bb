/- Contracts of functions that the laws of this chapter call, packed. -/
import Derived.Test.YtadjoiahllekdaaBwA
import Derived.Test.YtadjoiahllekdaaWishSpecC
import Derived.Test.YtadjoiahllekdaaItemIds
import Derived.Test.YtadjoiahllekdaaSpread
import Derived.Test.YtadjoiahllekdaaRegion
import Derived.Test.YtadjoiahllekdaaItemEq
import Derived.Test.YtadjoiahllekdaaPairSpecA
import Derived.Test.YtadjoiahllekdaaItemImpl
import Derived.Test.YtadjoiahllekdaaWishImpl
import Derived.Test.YtadjoiahllekdaaPairMark
import Derived.Test.YtadjoiahllekdaaPairSpecB
import Derived.Test.YtadjoiahllekdaaPairMarkI
import Derived.Test.YtadjoiahllekdaaItemRow
import Derived.Test.YtadjoiahllekdaaDraw3
namespace Go.Proofs.Ytadjoiahllekdaa.num
set_option maxRecDepth 20000
open Go.RowKit
set_option linter.unusedVariables false
set_option linter.unusedSimpArgs false

theorem ownI_take {w : World} {B : Nat} {A : Option Addr} {n c k : Nat} {l : List Int} (h : OwnI w B (.slice A n c) l) (hk : k ≤ n) : OwnI w B (.slice A k c) (l.take k) := by
  rcases h.2 with ⟨e, hl⟩ | ⟨g, cap, cur, e, hB, hg, h1, h2, h3, h4⟩
  · injection e with e1 e2 e3
    subst e1 e2 e3
    obtain rfl : k = 0 := by omega
    exact ⟨by simp, .inl ⟨rfl, by simp⟩⟩
  · injection e with e1 e2 e3
    subst e1 e2 e3
    have hlen : (l.take k).length = k := by rw [List.length_take]; omega
    refine ⟨by simp, .inr ⟨g, c, cur, by rw [hlen], hB, hg, by omega, h2, h3, ?_⟩⟩
    rw [List.map_take, ← h4, List.take_take, hlen]
    congr 1
    omega
theorem ownI_cells {w : World} {B : Nat} {A : Option Addr} {n c : Nat} {l : List Int} (h : OwnI w B (.slice A n c) l) (hn : 0 < n) : l.length = n ∧ n ≤ c ∧ c ≤ maxLen ∧ ∃ g, A = some ⟨g, 0, none⟩ ∧ B ≤ g ∧ g < w.heap.size ∧ ∀ (j : Nat) (x : Int), l[j]? = some x → w.cell? ⟨g, j, none⟩ = some (.int .i64 x) ∧ w.frozen? ⟨g, j, none⟩ = false := by
  rcases ownI_row h with ⟨e, _⟩ | ⟨g, cap, f, e, hB, h1, h2, h3, h4⟩
  · injection e with e1 e2 e3; omega
  · injection e with e1 e2 e3
    subst e1 e2 e3
    refine ⟨rfl, h1, h2, g, rfl, hB, h3.lt, fun j x hj => ?_⟩
    have hlt : j < l.length := by
      rcases Nat.lt_or_ge j l.length with q | q
      · exact q
      · rw [List.getElem?_eq_none q] at hj; cases hj
    have h5 := h4 j hlt
    rw [List.getElem?_map, hj] at h5
    exact ⟨by rw [World.rowIs.cell h3 (by omega)]; exact h5.symm, World.rowIs.frozen h3 j⟩
theorem ownI_setlast {w : World} {B g n c : Nat} {M : List Int} {x : Int} (h : OwnI w B (.slice (some ⟨g, 0, none⟩) n c) (M ++ [x])) (y : Int) : OwnI (w.setCell ⟨g, M.length, none⟩ (.int .i64 y)) B (.slice (some ⟨g, 0, none⟩) n c) (M ++ [y]) := by
  rcases ownI_row h with ⟨e, _⟩ | ⟨g', cap, f, e, hB, h1, h2, h3, h4⟩
  · cases e
  · injection e with e1 e2 e3
    injection e1 with e1
    injection e1 with e1
    subst e1 e2 e3
    refine ownI_of_row hB (by simp) h1 h2 (World.rowIs.set h3 M.length (.int .i64 y)) fun j hj => ?_
    have h5 := h4 j hj
    by_cases e : j = M.length
    · subst e
      rw [if_pos rfl]
      simp
    · rw [if_neg e, ← h5]
      have hlt : j < M.length := by simp at hj; omega
      simp only [List.map_append]
      rw [List.getElem?_append_left (by simpa using hlt), List.getElem?_append_left (by simpa using hlt)]
theorem snoc_of {α : Type} {l : List α} {k : Nat} (h : l.length = k + 1) : ∃ m x, l = m ++ [x] ∧ m.length = k := by
  rcases List.eq_nil_or_concat l with rfl | ⟨m, x, rfl⟩
  · simp at h
  · exact ⟨m, x, by rw [List.concat_eq_append], by simpa using h⟩

theorem sMeet (w : World) (a b : Int) : Calls Try.prog 94 #[.int .i64 a, .int .i64 b] w fun e w' => e = .returned (.int .i64 (if a = b then a else 2)) ∧ w' = w := by
  by_cases h : a = b
  · subst h
    rw [if_pos rfl]
    have hx : (a == a) = true := by simp
    go_enter Try.func94, Try.ntmps94
    go_wp2
    go_ret
    exact ⟨rfl, rfl⟩
  · rw [if_neg h]
    have hx : (a == b) = false := by simpa using h
    go_enter Try.func94, Try.ntmps94
    go_wp2
    go_ret
    exact ⟨rfl, rfl⟩
theorem sPareto (w : World) (a b : Int) (ha : Code a) (hb : Code b) : Calls Try.prog 93 #[.int .i64 a, .int .i64 b] w fun e w' => e = .returned (.int .i64 (opC 1 a b)) ∧ w' = w := by
  rcases ha with rfl | rfl | rfl | rfl <;> rcases hb with rfl | rfl | rfl | rfl <;>
    (go_enter Try.func93, Try.ntmps93
     go_wp2
     go_ret
     exact ⟨by first | rfl | decide, rfl⟩)
theorem sOp (w : World) (op a b : Int) (ho : Bin op) (ha : Code a) (hb : Code b) : Calls Try.prog 72 #[.int .i64 op, .int .i64 a, .int .i64 b] w fun e w' => e = .returned (.int .i64 (opC op a b)) ∧ w' = w := by
  have HP : Hid (∀ w1, Calls Try.prog 93 #[.int .i64 a, .int .i64 b] w1 fun e w' => e = .returned (.int .i64 (opC 1 a b)) ∧ w' = w1) := Lib.hid fun w1 => sPareto w1 a b ha hb
  clear ha hb
  obtain ⟨z, hz⟩ : ∃ z, opC op a b = z := ⟨_, rfl⟩
  rw [hz]
  have HZ := Lib.hid hz
  clear hz
  rcases ho with rfl | rfl | rfl
  · go_enter Try.func72, Try.ntmps72
    go_wp2_with fail
    refine (HP.out _).mono ?_
    rintro e w1 ⟨rfl, rfl⟩
    rw [HZ.out]
    go_wp2
    go_ret
    exact ⟨rfl, rfl⟩
  · by_cases h : a = 0
    · subst h
      obtain rfl : z = b := by rw [← HZ.out]; rfl
      go_enter Try.func72, Try.ntmps72
      go_wp2
      go_ret
      exact ⟨rfl, rfl⟩
    · obtain rfl : z = a := by rw [← HZ.out]; unfold opC; rw [if_neg (by decide), if_pos rfl, if_pos h]
      have hne : (z != 0) = true := by simpa using h
      go_enter Try.func72, Try.ntmps72
      go_wp2
      go_ret
      exact ⟨rfl, rfl⟩
  · go_enter Try.func72, Try.ntmps72
    go_wp2_with fail
    refine (sMeet _ a b).mono ?_
    rintro e w1 ⟨rfl, rfl⟩
    have hv : (if a = b then a else 2) = z := by rw [← HZ.out]; rfl
    rw [hv]
    go_wp2
    go_ret
    exact ⟨rfl, rfl⟩

/-- The codes on the stack, the last one on top. -/
def codes (f : WD → Int) (st : List Tr) : List Int := st.reverse.map (cmpT f)
theorem codes_cons (f : WD → Int) (t : Tr) (st : List Tr) : codes f (t :: st) = codes f st ++ [cmpT f t] := by unfold codes; rw [List.reverse_cons, List.map_append, List.map_singleton]
theorem codes_len (f : WD → Int) (st : List Tr) : (codes f st).length = st.length := by unfold codes; simp
theorem stk_next {l : List ND} {nd : ND} {st : List Tr} (h : Stk l st) (h' : ∃ s, Stk (l ++ [nd]) s) :
    (nd.op = 0 ∧ IsW nd.w) ∨ (nd.op = 3 ∧ NoW nd.w ∧ ∃ a s, st = a :: s) ∨ (Bin nd.op ∧ NoW nd.w ∧ ∃ a b s, st = b :: a :: s) := by
  obtain ⟨s, hs⟩ := h'
  rcases hs.inv with ⟨h1, h2, _⟩ | ⟨h1, h2, a, s', k, _⟩ | ⟨h1, h2, a, b, s', k, _⟩
  · exact .inl ⟨h1, h2⟩
  · exact .inr (.inl ⟨h1, h2, a, s', h.one k⟩)
  · exact .inr (.inr ⟨h1, h2, a, b, s', h.one k⟩)

set_option maxRecDepth 20000 in
set_option maxHeartbeats 6400000 in
theorem sCompare (w : World) (B : Nat) (A : Option Addr) (n c : Nat) (ns : List Nd) (x y : It) (hi : Nodes w B A n ns) (hix : Ints w B x.A x.n x.xs) (hiy : Ints w B y.A y.n y.xs) (hB : B ≤ w.heap.size) (hN : ShortN ns) (hpx : IsP x.dat) (hpy : IsP y.dat) (t : Tr) (hp : Post (datN ns) t) (h9 : n ≤ 9) :
    Calls Try.prog 49 #[.slice A n c, x.val, y.val] w fun e w' => e = .returned (.int .i64 (cmpT (wishF x y) t)) ∧ Below w.heap.size w w' := by
  have HX := Lib.hid hi
  have HN := Lib.hid hN
  have HIx := Lib.hid hix
  have HIy := Lib.hid hiy
  have HPx := Lib.hid hpx
  have HPy := Lib.hid hpy
  have HPo := Lib.hid (post_stk.1 hp)
  have HPre : Hid (∀ k, ∃ s, Stk (datN (ns.take k)) s) := Lib.hid fun k => by
    have h := post_stk.1 hp
    rw [datN_split ns k] at h
    exact h.pre
  have hvx : x.val = .agg #[.int .i64 x.id, .slice x.A x.n x.c] := rfl
  have hvy : y.val = .agg #[.int .i64 y.id, .slice y.A y.n y.c] := rfl
  rw [hvx, hvy]
  clear hi hN hix hiy hpx hpy hp hvx hvy
  have hB1 : Below w.heap.size w (((w.alloc (.cells #[.int .i64 x.id, .slice x.A x.n x.c] 58)).alloc (.cells #[.int .i64 y.id, .slice y.A y.n y.c] 58)).alloc (.cells #[] 3)) := (((Below.refl _ w).alloc (Nat.le_refl _) _).alloc (by simp) _).alloc (by simp; omega) _
  have HB1 := Lib.hid hB1
  have Xx := Lib.hid (((Box2.new w x 58).alloc (.cells #[.int .i64 y.id, .slice y.A y.n y.c] 58)).alloc (.cells #[] 3))
  have Xy := Lib.hid ((Box2.new (w.alloc (.cells #[.int .i64 x.id, .slice x.A x.n x.c] 58)) y 58).alloc (.cells #[] 3))
  have HO : Hid (OwnI (((w.alloc (.cells #[.int .i64 x.id, .slice x.A x.n x.c] 58)).alloc (.cells #[.int .i64 y.id, .slice y.A y.n y.c] 58)).alloc (.cells #[] 3)) (w.heap.size + 2) (.slice (some ⟨((w.alloc (.cells #[.int .i64 x.id, .slice x.A x.n x.c] 58)).alloc (.cells #[.int .i64 y.id, .slice y.A y.n y.c] 58)).heap.size, 0, none⟩) 0 0) []) := Lib.hid (OwnI.empty _ _ (by simp))
  clear hB1
  go_enter Try.func49, Try.ntmps49
  go_wp2
  go_loopw [7, 8] (fun s i wr => ∃ (k m : Nat) (cc : Nat) (SA : Option Addr) (st : List Tr), k ≤ n ∧ i = .int .i64 k ∧ s = .slice SA m cc ∧ m ≤ k ∧ Stk (datN (ns.take k)) st ∧ st.length = m ∧ OwnI wr (w.heap.size + 2) (.slice SA m cc) (codes (wishF x y) st) ∧ Below w.heap.size w wr ∧ w.heap.size + 2 ≤ wr.heap.size ∧
    (wr.cell? ⟨w.heap.size, 0, none⟩ = some (.int .i64 x.id) ∧ wr.cell? ⟨w.heap.size, 1, none⟩ = some (.slice x.A x.n x.c) ∧ wr.cell? ⟨w.heap.size + 1, 0, none⟩ = some (.int .i64 y.id) ∧ wr.cell? ⟨w.heap.size + 1, 1, none⟩ = some (.slice y.A y.n y.c))) (fun _ i _ => n - (intOf i).toNat)
  case atStart =>
    obtain ⟨-, x_0, x_1⟩ := Xx.out
    obtain ⟨-, y_0, y_1⟩ := Xy.out
    rw [World.size_alloc] at y_0 y_1
    refine ⟨0, 0, 0, _, [], Nat.zero_le _, rfl, rfl, Nat.le_refl _, .nil, rfl, ?_, HB1.out, by simp, x_0, x_1, y_0, y_1⟩
    have h := HO.out
    have e : codes (wishF x y) [] = [] := rfl
    rw [e]
    simpa using h
  case round =>
    clear Xx Xy HO HB1
    obtain ⟨k, m, cc, SA, st, hk, rfl, rfl, hmk, hst, hlen, hown, hbel, hs2, hbox⟩ := hrel
    have HSt := Lib.hid hst
    have HLen := Lib.hid hlen
    have HO := Lib.hid hown
    have HB := Lib.hid hbel
    have HS2 := Lib.hid hs2
    have HBox := Lib.hid hbox
    clear hst hlen hown hs2
    by_cases hlt : k < n
    · obtain ⟨b1, off, ⟨op, t⟩, rfl, hb1, hat, hwf, g0, g1, g2, g3, g4, g5⟩ := HX.out.at k hlt
      dsimp only at g0 g1 g2 g3 g4 g5
      have tr : ∀ {bb oo : Nat} {v : Value}, bb < B → w.cell? ⟨bb, oo, none⟩ = some v → wr.cell? ⟨bb, oo, none⟩ = some v := fun {bb oo v} hb h => (hbel.cell (p := ⟨bb, oo, none⟩) (Nat.lt_of_lt_of_le hb hB)).trans h
      have g0 := tr hb1 g0
      have g1 := tr hb1 g1
      have g2 := tr hb1 g2
      have g3 := tr hb1 g3
      have g4 := tr hb1 g4
      have g5 := tr hb1 g5
      have hlt' : (k : Int) < (n : Int) := by omega
      have HWi : Hid (WiIn wr B t) := Lib.hid (hwf.2.below (hbel.mono hB))
      have hBr : B ≤ wr.heap.size := Nat.le_trans hB hbel.size
      have HSh : Hid t.Short := Lib.hid (HN.out _ (List.mem_of_getElem? hat))
      have HE : Hid (datN (ns.take (k + 1)) = datN (ns.take k) ++ [⟨op, t.dat⟩]) := Lib.hid (datN_at hat)
      have hnext := stk_next HSt.out (HE.out ▸ HPre.out (k + 1))
      have HIx1 := Lib.hid (HIx.out.below (hbel.mono hB))
      have HIy1 := Lib.hid (HIy.out.below (hbel.mono hB))
      clear hat hwf hbel tr
      dsimp only at hnext
      rcases hnext with ⟨rfl, hw⟩ | ⟨rfl, hnw, a, s, rfl⟩ | ⟨hbin, hnw, a, b, s, rfl⟩
      · have hf : 0 ≤ t.field ∧ t.field ≤ 2 := hw.f
        obtain ⟨bx, ox, hxA, hbx, hfn, hfx, cx0⟩ := fval_cell HIx1.out HPx.out hf
        obtain ⟨by', oy, hyA, hby, -, hfy, cy0⟩ := fval_cell HIy1.out HPy.out hf
        have HC : Hid (∀ w1, Below wr.heap.size wr w1 → Calls Try.prog 71 #[.agg #[.int .i64 t.kind, .int .i64 t.field, .int .i64 t.value, .slice t.LA t.Ln t.Lc, .slice t.PA t.Pn t.Pc], .int .i64 (fval x t.field), .int .i64 (fval y t.field)] w1 fun e w' => e = .returned (.int .i64 (cmpW t.dat (fval x t.field) (fval y t.field))) ∧ Below w1.heap.size w1 w') := Lib.hid fun w1 h => sCmp w1 B t (HWi.out.below (h.mono hBr)) (Nat.le_trans hBr h.size) HSh.out hw _ _ (fval_in HPx.out hf) (fval_in HPy.out hf)
        have HS1 : Hid (Stk (datN (ns.take (k + 1))) (.base t.dat :: st)) := Lib.hid (by rw [HE.out]; exact .base HSt.out rfl hw)
        have HZ : Hid (codes (wishF x y) (.base t.dat :: st) = codes (wishF x y) st ++ [cmpW t.dat (fval x t.field) (fval y t.field)]) := Lib.hid (codes_cons _ _ _)
        generalize cmpW t.dat (fval x t.field) (fval y t.field) = z at *
        generalize fval x t.field = vx at *
        generalize fval y t.field = vy at *
        have hbx3 : bx < wr.heap.size := by omega
        have hby3 : by' < wr.heap.size := by omega
        have hfw : IntKind.i64.wrap t.field = t.field := IntWalk.i64_in _ ⟨by omega, by omega⟩
        have hf0 := hf.1
        obtain ⟨x_0, x_1, y_0, y_1⟩ := hbox
        rw [hxA] at x_1
        rw [hyA] at y_1
        clear hxA hyA
        have HCap : Hid (((codes (wishF x y) st).length + [z].length) * 8 ≤ 140737488355328) := Lib.hid (by rw [codes_len, HLen.out]; simp; omega)
        clear hf hw
        go_wp2
        have hws0 : w.heap.size < w.heap.size + 2 := by omega
        have hws1 : w.heap.size + 1 < w.heap.size + 2 := by omega
        have hb1r : b1 < w.heap.size + 2 := by omega
        have hbxr : bx < w.heap.size + 2 := by omega
        have hbyr : by' < w.heap.size + 2 := by omega
        have hs0 : (fun w' => Below (w.heap.size + 2) wr w' ∧ w'.cell? ⟨w.heap.size, 0, none⟩ = some (.int .i64 x.id) ∧ w'.cell? ⟨w.heap.size, 1, none⟩ = some (.slice (some ⟨bx, ox, none⟩) x.n x.c) ∧ w'.cell? ⟨w.heap.size + 1, 0, none⟩ = some (.int .i64 y.id) ∧ w'.cell? ⟨w.heap.size + 1, 1, none⟩ = some (.slice (some ⟨by', oy, none⟩) y.n y.c) ∧ w'.cell? ⟨b1, off + k * 6, none⟩ = some (.int .i64 0) ∧ w'.cell? ⟨b1, off + k * 6 + 1, none⟩ = some (.int .i64 t.kind) ∧ w'.cell? ⟨b1, off + k * 6 + 2, none⟩ = some (.int .i64 t.field) ∧ w'.cell? ⟨b1, off + k * 6 + 3, none⟩ = some (.int .i64 t.value) ∧ w'.cell? ⟨b1, off + k * 6 + 4, none⟩ = some (.slice t.LA t.Ln t.Lc) ∧ w'.cell? ⟨b1, off + k * 6 + 5, none⟩ = some (.slice t.PA t.Pn t.Pc) ∧ w'.cell? ⟨bx, ox + t.field.toNat, none⟩ = some (.int .i64 vx) ∧ w'.cell? ⟨by', oy + t.field.toNat, none⟩ = some (.int .i64 vy)) wr.drew := ⟨(Below.refl _ _).drew, x_0, x_1, y_0, y_1, g0, g1, g2, g3, g4, g5, cx0, cy0⟩
        refine wp_region_held (S := fun w' => Below (w.heap.size + 2) wr w' ∧ w'.cell? ⟨w.heap.size, 0, none⟩ = some (.int .i64 x.id) ∧ w'.cell? ⟨w.heap.size, 1, none⟩ = some (.slice (some ⟨bx, ox, none⟩) x.n x.c) ∧ w'.cell? ⟨w.heap.size + 1, 0, none⟩ = some (.int .i64 y.id) ∧ w'.cell? ⟨w.heap.size + 1, 1, none⟩ = some (.slice (some ⟨by', oy, none⟩) y.n y.c) ∧ w'.cell? ⟨b1, off + k * 6, none⟩ = some (.int .i64 0) ∧ w'.cell? ⟨b1, off + k * 6 + 1, none⟩ = some (.int .i64 t.kind) ∧ w'.cell? ⟨b1, off + k * 6 + 2, none⟩ = some (.int .i64 t.field) ∧ w'.cell? ⟨b1, off + k * 6 + 3, none⟩ = some (.int .i64 t.value) ∧ w'.cell? ⟨b1, off + k * 6 + 4, none⟩ = some (.slice t.LA t.Ln t.Lc) ∧ w'.cell? ⟨b1, off + k * 6 + 5, none⟩ = some (.slice t.PA t.Pn t.Pc) ∧ w'.cell? ⟨bx, ox + t.field.toNat, none⟩ = some (.int .i64 vx) ∧ w'.cell? ⟨by', oy + t.field.toNat, none⟩ = some (.int .i64 vy)) (by kernel_rfl) ?_
        change wpAnyH _ _ _ _ _ _ _ _ (World.drew _)
        refine takeY 58 (i := 0) (v := ?v0a) rfl rfl (by kernel_rfl) (by kernel_rfl) (by kernel_rfl) (fun _ _ _ h => h) (by kernel_rfl) ?y0a hs0 ?_
        case y0a =>
          intro w' hw'; (try dsimp only at hw'); obtain ⟨e0, e1, e2, e3, e4, e5, e6, e7, e8, e9, e10, e11, e12⟩ := hw'; go_simp; try with_reducible rfl
        simp only [Act.put, List.setIfInBounds_toArray, List.set_cons_zero, List.set_cons_succ]
        refine takeY 59 (i := 1) (v := ?v1a) rfl rfl (by kernel_rfl) (by kernel_rfl) (by kernel_rfl) (fun _ _ _ h => h) (by kernel_rfl) ?y1a hs0 ?_
        case y1a =>
          intro w' hw'; (try dsimp only at hw'); obtain ⟨e0, e1, e2, e3, e4, e5, e6, e7, e8, e9, e10, e11, e12⟩ := hw'; go_simp; try with_reducible rfl
        simp only [Act.put, List.setIfInBounds_toArray, List.set_cons_zero, List.set_cons_succ]
        refine takeY 60 (i := 2) (v := ?v2a) rfl rfl (by kernel_rfl) (by kernel_rfl) (by kernel_rfl) (fun _ _ _ h => h) (by kernel_rfl) ?y2a hs0 ?_
        case y2a =>
          intro w' hw'; (try dsimp only at hw'); obtain ⟨e0, e1, e2, e3, e4, e5, e6, e7, e8, e9, e10, e11, e12⟩ := hw'; go_simp; try with_reducible rfl
        simp only [Act.put, List.setIfInBounds_toArray, List.set_cons_zero, List.set_cons_succ]
        refine takeY 61 (i := 3) (v := ?v3a) rfl rfl (by kernel_rfl) (by kernel_rfl) (by kernel_rfl) (fun _ _ _ h => h) (by kernel_rfl) ?y3a hs0 ?_
        case y3a =>
          intro w' hw'; (try dsimp only at hw'); obtain ⟨e0, e1, e2, e3, e4, e5, e6, e7, e8, e9, e10, e11, e12⟩ := hw'; go_simp; try with_reducible rfl
        simp only [Act.put, List.setIfInBounds_toArray, List.set_cons_zero, List.set_cons_succ]
        refine takeY 62 (i := 4) (v := ?v4a) rfl rfl (by kernel_rfl) (by kernel_rfl) (by kernel_rfl) (fun _ _ _ h => h) (by kernel_rfl) ?y4a hs0 ?_
        case y4a =>
          intro w' hw'; (try dsimp only at hw'); obtain ⟨e0, e1, e2, e3, e4, e5, e6, e7, e8, e9, e10, e11, e12⟩ := hw'; go_simp; try with_reducible rfl
        simp only [Act.put, List.setIfInBounds_toArray, List.set_cons_zero, List.set_cons_succ]
        refine takeY 63 (i := 5) (v := ?v5a) rfl rfl (by kernel_rfl) (by kernel_rfl) (by kernel_rfl) (fun _ _ _ h => h) (by kernel_rfl) ?y5a hs0 ?_
        case y5a =>
          intro w' hw'; (try dsimp only at hw'); obtain ⟨e0, e1, e2, e3, e4, e5, e6, e7, e8, e9, e10, e11, e12⟩ := hw'; go_simp; try with_reducible rfl
        simp only [Act.put, List.setIfInBounds_toArray, List.set_cons_zero, List.set_cons_succ]
        refine takeY 64 (i := 6) (v := ?v6a) rfl rfl (by kernel_rfl) (by kernel_rfl) (by kernel_rfl) (fun _ _ _ h => h) (by kernel_rfl) ?y6a hs0 ?_
        case y6a =>
          intro w' hw'; (try dsimp only at hw'); obtain ⟨e0, e1, e2, e3, e4, e5, e6, e7, e8, e9, e10, e11, e12⟩ := hw'; go_simp; try with_reducible rfl
        simp only [Act.put, List.setIfInBounds_toArray, List.set_cons_zero, List.set_cons_succ]
        refine takeY 65 (i := 7) (v := ?v7a) rfl rfl (by kernel_rfl) (by kernel_rfl) (by kernel_rfl) (fun _ _ _ h => h) (by kernel_rfl) ?y7a hs0 ?_
        case y7a =>
          intro w' hw'; (try dsimp only at hw'); obtain ⟨e0, e1, e2, e3, e4, e5, e6, e7, e8, e9, e10, e11, e12⟩ := hw'; go_simp; try with_reducible rfl
        simp only [Act.put, List.setIfInBounds_toArray, List.set_cons_zero, List.set_cons_succ]
        refine takeY 66 (i := 8) (v := ?v8a) rfl rfl (by kernel_rfl) (by kernel_rfl) (by kernel_rfl) (fun _ _ _ h => h) (by kernel_rfl) ?y8a hs0 ?_
        case y8a =>
          intro w' hw'; (try dsimp only at hw'); obtain ⟨e0, e1, e2, e3, e4, e5, e6, e7, e8, e9, e10, e11, e12⟩ := hw'; go_simp; try with_reducible rfl
        simp only [Act.put, List.setIfInBounds_toArray, List.set_cons_zero, List.set_cons_succ]
        refine takeY 67 (i := 9) (v := ?v9a) rfl rfl (by kernel_rfl) (by kernel_rfl) (by kernel_rfl) (fun _ _ _ h => h) (by kernel_rfl) ?y9a hs0 ?_
        case y9a =>
          intro w' hw'; (try dsimp only at hw'); obtain ⟨e0, e1, e2, e3, e4, e5, e6, e7, e8, e9, e10, e11, e12⟩ := hw'; go_simp; try with_reducible rfl
        simp only [Act.put, List.setIfInBounds_toArray, List.set_cons_zero, List.set_cons_succ]
        refine takeY 68 (i := 10) (v := ?v10a) rfl rfl (by kernel_rfl) (by kernel_rfl) (by kernel_rfl) (fun _ _ _ h => h) (by kernel_rfl) ?y10a hs0 ?_
        case y10a =>
          intro w' hw'; (try dsimp only at hw'); obtain ⟨e0, e1, e2, e3, e4, e5, e6, e7, e8, e9, e10, e11, e12⟩ := hw'; go_simp; try with_reducible rfl
        simp only [Act.put, List.setIfInBounds_toArray, List.set_cons_zero, List.set_cons_succ]
        refine takeY 69 (i := 11) (v := ?v11a) rfl rfl (by kernel_rfl) (by kernel_rfl) (by kernel_rfl) (fun _ _ _ h => h) (by kernel_rfl) ?y11a hs0 ?_
        case y11a =>
          intro w' hw'; (try dsimp only at hw'); obtain ⟨e0, e1, e2, e3, e4, e5, e6, e7, e8, e9, e10, e11, e12⟩ := hw'; go_simp; try with_reducible rfl
        simp only [Act.put, List.setIfInBounds_toArray, List.set_cons_zero, List.set_cons_succ]
        refine takeY 70 (i := 12) (v := ?v12a) rfl rfl (by kernel_rfl) (by kernel_rfl) (by kernel_rfl) (fun _ _ _ h => h) (by kernel_rfl) ?y12a hs0 ?_
        case y12a =>
          intro w' hw'; (try dsimp only at hw'); obtain ⟨e0, e1, e2, e3, e4, e5, e6, e7, e8, e9, e10, e11, e12⟩ := hw'; go_simp; try with_reducible rfl
        simp only [Act.put, List.setIfInBounds_toArray, List.set_cons_zero, List.set_cons_succ]
        refine takeY 71 (i := 13) (v := ?v13a) rfl rfl (by kernel_rfl) (by kernel_rfl) (by kernel_rfl) (fun _ _ _ h => h) (by kernel_rfl) ?y13a hs0 ?_
        case y13a =>
          intro w' hw'; (try dsimp only at hw'); obtain ⟨e0, e1, e2, e3, e4, e5, e6, e7, e8, e9, e10, e11, e12⟩ := hw'; go_simp; try with_reducible rfl
        simp only [Act.put, List.setIfInBounds_toArray, List.set_cons_zero, List.set_cons_succ]
        refine takeY 72 (i := 14) (v := ?v14a) rfl rfl (by kernel_rfl) (by kernel_rfl) (by kernel_rfl) (fun _ _ _ h => h) (by kernel_rfl) ?y14a hs0 ?_
        case y14a =>
          intro w' hw'; (try dsimp only at hw'); obtain ⟨e0, e1, e2, e3, e4, e5, e6, e7, e8, e9, e10, e11, e12⟩ := hw'; go_simp; try with_reducible rfl
        simp only [Act.put, List.setIfInBounds_toArray, List.set_cons_zero, List.set_cons_succ]
        refine takeY 73 (i := 15) (v := ?v15a) rfl rfl (by kernel_rfl) (by kernel_rfl) (by kernel_rfl) (fun _ _ _ h => h) (by kernel_rfl) ?y15a hs0 ?_
        case y15a =>
          intro w' hw'; (try dsimp only at hw'); obtain ⟨e0, e1, e2, e3, e4, e5, e6, e7, e8, e9, e10, e11, e12⟩ := hw'; go_simp; try with_reducible rfl
        simp only [Act.put, List.setIfInBounds_toArray, List.set_cons_zero, List.set_cons_succ]
        refine wpAnyH_ready (rs := [16]) (by kernel_rfl) (by simp) ?_
        refine AllReadyH.cons rfl (fun K hK => ?_) AllReadyH.nil
        go_simp; go_at_call 71; refine (HC.out _ (Below.refl _ _).drew).mono ?_; rintro e w2 ⟨rfl, hb2⟩; have hb2' : Below wr.heap.size wr w2 := below_on (Below.refl wr.heap.size wr).drew hb2; have HB2 := Lib.hid hb2'; have HO2 := Lib.hid (ownI_below HO.out hb2'); have hs2 : w.heap.size + 2 ≤ w2.heap.size := Nat.le_trans HS2.out hb2'.size; have hb2m : Below (w.heap.size + 2) wr w2 := hb2'.mono HS2.out; clear hb2
        refine hK.out _ _ ⟨hb2m, (hb2m.cell (p := ⟨w.heap.size, 0, none⟩) hws0).trans x_0, (hb2m.cell (p := ⟨w.heap.size, 1, none⟩) hws0).trans x_1, (hb2m.cell (p := ⟨w.heap.size + 1, 0, none⟩) hws1).trans y_0, (hb2m.cell (p := ⟨w.heap.size + 1, 1, none⟩) hws1).trans y_1, (hb2m.cell (p := ⟨b1, off + k * 6, none⟩) hb1r).trans g0, (hb2m.cell (p := ⟨b1, off + k * 6 + 1, none⟩) hb1r).trans g1, (hb2m.cell (p := ⟨b1, off + k * 6 + 2, none⟩) hb1r).trans g2, (hb2m.cell (p := ⟨b1, off + k * 6 + 3, none⟩) hb1r).trans g3, (hb2m.cell (p := ⟨b1, off + k * 6 + 4, none⟩) hb1r).trans g4, (hb2m.cell (p := ⟨b1, off + k * 6 + 5, none⟩) hb1r).trans g5, (hb2m.cell (p := ⟨bx, ox + t.field.toNat, none⟩) hbxr).trans cx0, (hb2m.cell (p := ⟨by', oy + t.field.toNat, none⟩) hbyr).trans cy0⟩ (fun hS1 => ?_)
        clear hK K
        try simp only [Act.put, List.setIfInBounds_toArray, List.set_cons_zero, List.set_cons_succ]
        refine wpAnyH_ready (rs := [17]) (by kernel_rfl) (by simp) ?_
        refine AllReadyH.cons rfl (fun K hK => ?_) AllReadyH.nil
        go_simp; have hb2a : Below (w.heap.size + 2) wr (w2.alloc (.cells #[.int .i64 z] 3)) := hb2m.alloc hs2 _
        refine hK.out _ _ ⟨hb2a, (hb2a.cell (p := ⟨w.heap.size, 0, none⟩) hws0).trans x_0, (hb2a.cell (p := ⟨w.heap.size, 1, none⟩) hws0).trans x_1, (hb2a.cell (p := ⟨w.heap.size + 1, 0, none⟩) hws1).trans y_0, (hb2a.cell (p := ⟨w.heap.size + 1, 1, none⟩) hws1).trans y_1, (hb2a.cell (p := ⟨b1, off + k * 6, none⟩) hb1r).trans g0, (hb2a.cell (p := ⟨b1, off + k * 6 + 1, none⟩) hb1r).trans g1, (hb2a.cell (p := ⟨b1, off + k * 6 + 2, none⟩) hb1r).trans g2, (hb2a.cell (p := ⟨b1, off + k * 6 + 3, none⟩) hb1r).trans g3, (hb2a.cell (p := ⟨b1, off + k * 6 + 4, none⟩) hb1r).trans g4, (hb2a.cell (p := ⟨b1, off + k * 6 + 5, none⟩) hb1r).trans g5, (hb2a.cell (p := ⟨bx, ox + t.field.toNat, none⟩) hbxr).trans cx0, (hb2a.cell (p := ⟨by', oy + t.field.toNat, none⟩) hbyr).trans cy0⟩ (fun hS2 => ?_)
        clear hK K
        try simp only [Act.put, List.setIfInBounds_toArray, List.set_cons_zero, List.set_cons_succ]
        refine wpAnyH_ready (rs := [18]) (by kernel_rfl) (by simp) ?_
        refine AllReadyH.cons rfl (fun K hK => ?_) AllReadyH.nil
        refine stepI w2 (by rfl) (.tmp 58) (.tmp 75) (by rfl) (w.heap.size + 2) _ _ (by rfl) HO2.out _ [z] (by rfl) 1 1 rfl (by rfl) HCap.out hs2 ?_; intro v1 w3 hown3 hb3; have hb3m := hb2m.trans hb3
        refine hK.out _ _ ⟨hb3m, (hb3m.cell (p := ⟨w.heap.size, 0, none⟩) hws0).trans x_0, (hb3m.cell (p := ⟨w.heap.size, 1, none⟩) hws0).trans x_1, (hb3m.cell (p := ⟨w.heap.size + 1, 0, none⟩) hws1).trans y_0, (hb3m.cell (p := ⟨w.heap.size + 1, 1, none⟩) hws1).trans y_1, (hb3m.cell (p := ⟨b1, off + k * 6, none⟩) hb1r).trans g0, (hb3m.cell (p := ⟨b1, off + k * 6 + 1, none⟩) hb1r).trans g1, (hb3m.cell (p := ⟨b1, off + k * 6 + 2, none⟩) hb1r).trans g2, (hb3m.cell (p := ⟨b1, off + k * 6 + 3, none⟩) hb1r).trans g3, (hb3m.cell (p := ⟨b1, off + k * 6 + 4, none⟩) hb1r).trans g4, (hb3m.cell (p := ⟨b1, off + k * 6 + 5, none⟩) hb1r).trans g5, (hb3m.cell (p := ⟨bx, ox + t.field.toNat, none⟩) hbxr).trans cx0, (hb3m.cell (p := ⟨by', oy + t.field.toNat, none⟩) hbyr).trans cy0⟩ (fun hS3 => ?_)
        clear hK K
        try simp only [Act.put, List.setIfInBounds_toArray, List.set_cons_zero, List.set_cons_succ]
        refine takeY 7 (i := 19) (v := ?v19a) rfl rfl (by kernel_rfl) (by kernel_rfl) (by kernel_rfl) (fun _ _ _ h => h) (by kernel_rfl) ?y19a hS3 ?_
        case y19a =>
          intro w' hw'; (try dsimp only at hw'); obtain ⟨e0, e1, e2, e3, e4, e5, e6, e7, e8, e9, e10, e11, e12⟩ := hw'; go_simp; try with_reducible rfl
        simp only [Act.put, List.setIfInBounds_toArray, List.set_cons_zero, List.set_cons_succ]
        refine wpAnyH_done (by kernel_rfl) ?_ _
        clear hs0 hS1 hS2 hS3 hb2a hb2m hb3m hb2' x_0 x_1 y_0 y_1 cx0 cy0 g0 g1 g2 g3 g4 g5
        obtain ⟨LA', Ln', Lc', rfl, hin⟩ := hown3.ints
        have hlen3 : Ln' = m + 1 := by have := hin.1; rw [List.length_append, codes_len, HLen.out] at this; simp at this; omega
        have HO3 := Lib.hid hown3
        have HB3 := Lib.hid (HB2.out.mono HB.out.size)
        have HB4 := Lib.hid (HB.out.trans (HB3.out.trans (hb3.mono (by omega))))
        have HBox3 : Hid (w3.cell? ⟨w.heap.size, 0, none⟩ = some (.int .i64 x.id) ∧ w3.cell? ⟨w.heap.size, 1, none⟩ = some (.slice x.A x.n x.c) ∧ w3.cell? ⟨w.heap.size + 1, 0, none⟩ = some (.int .i64 y.id) ∧ w3.cell? ⟨w.heap.size + 1, 1, none⟩ = some (.slice y.A y.n y.c)) := Lib.hid (by
          have k : ∀ (bb oo : Nat), bb < w.heap.size + 2 → w3.cell? ⟨bb, oo, none⟩ = wr.cell? ⟨bb, oo, none⟩ := fun bb oo h => (hb3.cell (p := ⟨bb, oo, none⟩) h).trans (HB2.out.cell (p := ⟨bb, oo, none⟩) (Nat.lt_of_lt_of_le h HS2.out))
          have := HBox.out
          rw [k _ _ (by omega), k _ _ (by omega), k _ _ (by omega), k _ _ (by omega)]
          exact this)
        have HS3 := Lib.hid (Nat.le_trans hs2 hb3.size)
        clear hown3 hb3 hin
        go_wp2
        go_roundw
        case rel => exact ⟨k + 1, Ln', Lc', LA', .base t.dat :: st, by omega, by go_num, by first | rfl | rw [hlen3], by omega, HS1.out, by simp [HLen.out, hlen3], by rw [HZ.out]; exact HO3.out, HB4.out, HS3.out, HBox3.out⟩
        case measure => simp [intOf]; omega
      · have HS1 : Hid (Stk (datN (ns.take (k + 1))) (.dual a :: s)) := Lib.hid (by rw [HE.out]; exact .dual HSt.out rfl hnw)
        have HCo := Lib.hid (cmpT_code (wishF_code x y) a)
        have HZ : Hid (codes (wishF x y) (.dual a :: s) = codes (wishF x y) s ++ [revC (cmpT (wishF x y) a)]) := Lib.hid (codes_cons _ _ _)
        have hO := HO.out
        rw [codes_cons] at hO
        obtain ⟨j, rfl⟩ : ∃ j, m = j + 1 := ⟨s.length, by have := HLen.out; simp at this; omega⟩
        have hj : (codes (wishF x y) s).length = j := by rw [codes_len]; have := HLen.out; simp at this; omega
        obtain ⟨_, hcc, hcm, g, rfl, hgl, hgs, hcell⟩ := ownI_cells hO (by omega)
        obtain ⟨c1, c2⟩ := hcell j (cmpT (wishF x y) a) (by rw [List.getElem?_append_right (by omega), hj]; simp)
        have HOn := Lib.hid hO
        have HJ := Lib.hid hj
        have HG : Hid (w.heap.size + 2 ≤ g) := Lib.hid hgl
        have hx1 : (j : Int) + 1 - 1 = (j : Int) := by omega
        have hj1 : (j : Int) < (j : Int) + 1 := by omega
        have hj2 : j ≤ 9 := by omega
        clear hO hj hcell hnw hbox hcm
        generalize cmpT (wishF x y) a = z at *
        rcases HCo.out with rfl | rfl | rfl | rfl
        · have HO3 : Hid (OwnI (wr.setCell ⟨g, j, none⟩ (.int .i64 (1))) (w.heap.size + 2) (.slice (some ⟨g, 0, none⟩) (j + 1) cc) (codes (wishF x y) (.dual a :: s))) := Lib.hid (by
            rw [HZ.out, ← HJ.out]
            have h := ownI_setlast HOn.out (1)
            rw [HJ.out] at h ⊢
            exact h)
          go_wp2
          go_roundw
          case rel => exact ⟨k + 1, j + 1, cc, _, .dual a :: s, by omega, by go_num, rfl, by omega, HS1.out, by have := HLen.out; simpa using this, HO3.out, HB.out.setCell (by show w.heap.size ≤ g; omega) _, by simpa using HS2.out, by
            have h := HBox.out
            refine ⟨?_, ?_, ?_, ?_⟩
            · rw [World.cell?_setCell_other _ _ _ _ (fun e => by injection e; omega)]; exact h.1
            · rw [World.cell?_setCell_other _ _ _ _ (fun e => by injection e; omega)]; exact h.2.1
            · rw [World.cell?_setCell_other _ _ _ _ (fun e => by injection e; omega)]; exact h.2.2.1
            · rw [World.cell?_setCell_other _ _ _ _ (fun e => by injection e; omega)]; exact h.2.2.2⟩
          case measure => simp [intOf]; omega
        · have HO3 : Hid (OwnI (wr.setCell ⟨g, j, none⟩ (.int .i64 (0))) (w.heap.size + 2) (.slice (some ⟨g, 0, none⟩) (j + 1) cc) (codes (wishF x y) (.dual a :: s))) := Lib.hid (by
            rw [HZ.out, ← HJ.out]
            have h := ownI_setlast HOn.out (0)
            rw [HJ.out] at h ⊢
            exact h)
          go_wp2
          go_roundw
          case rel => exact ⟨k + 1, j + 1, cc, _, .dual a :: s, by omega, by go_num, rfl, by omega, HS1.out, by have := HLen.out; simpa using this, HO3.out, HB.out.setCell (by show w.heap.size ≤ g; omega) _, by simpa using HS2.out, by
            have h := HBox.out
            refine ⟨?_, ?_, ?_, ?_⟩
            · rw [World.cell?_setCell_other _ _ _ _ (fun e => by injection e; omega)]; exact h.1
            · rw [World.cell?_setCell_other _ _ _ _ (fun e => by injection e; omega)]; exact h.2.1
            · rw [World.cell?_setCell_other _ _ _ _ (fun e => by injection e; omega)]; exact h.2.2.1
            · rw [World.cell?_setCell_other _ _ _ _ (fun e => by injection e; omega)]; exact h.2.2.2⟩
          case measure => simp [intOf]; omega
        · have HO3 : Hid (OwnI (wr.setCell ⟨g, j, none⟩ (.int .i64 (-1))) (w.heap.size + 2) (.slice (some ⟨g, 0, none⟩) (j + 1) cc) (codes (wishF x y) (.dual a :: s))) := Lib.hid (by
            rw [HZ.out, ← HJ.out]
            have h := ownI_setlast HOn.out (-1)
            rw [HJ.out] at h ⊢
            exact h)
          go_wp2
          go_roundw
          case rel => exact ⟨k + 1, j + 1, cc, _, .dual a :: s, by omega, by go_num, rfl, by omega, HS1.out, by have := HLen.out; simpa using this, HO3.out, HB.out.setCell (by show w.heap.size ≤ g; omega) _, by simpa using HS2.out, by
            have h := HBox.out
            refine ⟨?_, ?_, ?_, ?_⟩
            · rw [World.cell?_setCell_other _ _ _ _ (fun e => by injection e; omega)]; exact h.1
            · rw [World.cell?_setCell_other _ _ _ _ (fun e => by injection e; omega)]; exact h.2.1
            · rw [World.cell?_setCell_other _ _ _ _ (fun e => by injection e; omega)]; exact h.2.2.1
            · rw [World.cell?_setCell_other _ _ _ _ (fun e => by injection e; omega)]; exact h.2.2.2⟩
          case measure => simp [intOf]; omega
        · have HO3 : Hid (OwnI wr (w.heap.size + 2) (.slice (some ⟨g, 0, none⟩) (j + 1) cc) (codes (wishF x y) (.dual a :: s))) := Lib.hid (by rw [HZ.out]; exact HOn.out)
          go_wp2
          go_roundw
          case rel => exact ⟨k + 1, j + 1, cc, _, .dual a :: s, by omega, by go_num, rfl, by omega, HS1.out, by have := HLen.out; simpa using this, HO3.out, HB.out, HS2.out, HBox.out⟩
          case measure => simp [intOf]; omega
      · have HS1 : Hid (Stk (datN (ns.take (k + 1))) (.bin op a b :: s)) := Lib.hid (by rw [HE.out]; exact .bin HSt.out hbin hnw)
        have HCa := Lib.hid (cmpT_code (wishF_code x y) a)
        have HCb := Lib.hid (cmpT_code (wishF_code x y) b)
        have HBin := Lib.hid hbin
        have HZ : Hid (codes (wishF x y) (.bin op a b :: s) = codes (wishF x y) s ++ [opC op (cmpT (wishF x y) a) (cmpT (wishF x y) b)]) := Lib.hid (codes_cons _ _ _)
        have hO := HO.out
        rw [codes_cons, codes_cons, List.append_assoc] at hO
        obtain ⟨j, rfl⟩ : ∃ j, m = j + 2 := ⟨s.length, by have := HLen.out; simp at this; omega⟩
        have hj : (codes (wishF x y) s).length = j := by rw [codes_len]; have := HLen.out; simp at this; omega
        obtain ⟨_, hcc, hcm, g, rfl, hgl, hgs, hcell⟩ := ownI_cells hO (by omega)
        obtain ⟨c1, -⟩ := hcell j (cmpT (wishF x y) a) (by rw [List.getElem?_append_right (by omega), hj]; simp)
        obtain ⟨c2, -⟩ := hcell (j + 1) (cmpT (wishF x y) b) (by rw [List.getElem?_append_right (by omega), hj, show j + 1 - j = 1 by omega]; rfl)
        have HTk : Hid (OwnI wr (w.heap.size + 2) (.slice (some ⟨g, 0, none⟩) j cc) (codes (wishF x y) s)) := Lib.hid (by
          have h := ownI_take hO (k := j) (by omega)
          rwa [List.take_left' hj] at h)
        have HJ := Lib.hid hj
        have HG : Hid (w.heap.size + 2 ≤ g) := Lib.hid hgl
        have hx1 : (j : Int) + 2 - 1 = (j : Int) + 1 := by omega
        have hx2 : (j : Int) + 2 - 2 = (j : Int) := by omega
        have hj1 : (j : Int) < (j : Int) + 2 := by omega
        have hj3 : (j : Int) + 1 < (j : Int) + 2 := by omega
        have hj4 : (j : Int) ≤ (cc : Int) := by omega
        have hj5 : (0 : Int) ≤ (j : Int) + 1 := by omega
        have hj6 : ((j : Int) + 1).toNat = j + 1 := by omega
        have hj7 : ¬ ((j : Int) + 1 < 0) := by omega
        have hj2 : j ≤ 9 := by omega
        have hwj : IntKind.i64.wrap (j : Int) = (j : Int) := IntWalk.i64_in _ ⟨by omega, by omega⟩
        have hwj1 : IntKind.i64.wrap ((j : Int) + 1) = (j : Int) + 1 := IntWalk.i64_in _ ⟨by omega, by omega⟩
        have hc9 : cc ≤ 9223372036854775807 := by unfold maxLen at hcm; omega
        have f0 : (op == 0) = false := by have := (bin_ne hbin).1; simpa using this
        have f3 : (op == 3) = false := by have := (bin_ne hbin).2; simpa using this
        clear hO hj hcell hnw hbox hcm hbin
        generalize cmpT (wishF x y) a = za at *
        generalize cmpT (wishF x y) b = zb at *
        have HCl : Hid (∀ w1, Calls Try.prog 72 #[.int .i64 op, .int .i64 za, .int .i64 zb] w1 fun e w' => e = .returned (.int .i64 (opC op za zb)) ∧ w' = w1) := Lib.hid fun w1 => sOp w1 op za zb HBin.out HCa.out HCb.out
        generalize opC op za zb = z at *
        have HCap : Hid (((codes (wishF x y) s).length + [z].length) * 8 ≤ 140737488355328) := Lib.hid (by rw [HJ.out]; simp; omega)
        go_wp2
        go_still_tail 15, (by kernel_rfl)
        change wpList _ _ _ _ _ wr.drew
        generalize hw1 : wr.drew = w1 at *
        have HB1 : Hid (Below wr.heap.size wr w1) := Lib.hid (hw1 ▸ (Below.refl _ _).drew)
        clear c1 c2 g0 g1 g2 g3 g4 g5 hw1
        go_wp2_with fail
        refine (HCl.out _).mono ?_
        rintro e w2 ⟨rfl, rfl⟩
        have HO2 := Lib.hid (ownI_below HTk.out HB1.out)
        have hs2 : w.heap.size + 2 ≤ w2.heap.size := Nat.le_trans HS2.out HB1.out.size
        go_wp2_with (at_builtin; refine wp_appI _ (by rfl) (.tmp 46) (.tmp 48) (by rfl) (w.heap.size + 2) _ _ (by rfl) HO2.out _ [z] (by rfl) 1 1 rfl (by rfl) HCap.out hs2 ?_)
        intro v1 w3 hown3 hb3
        obtain ⟨LA', Ln', Lc', rfl, hin⟩ := hown3.ints
        have hlen3 : Ln' = j + 1 := by have := hin.1; rw [List.length_append, HJ.out] at this; simp at this; omega
        have HO3 := Lib.hid hown3
        have HB3 := Lib.hid (HB1.out.mono HB.out.size)
        have HB4 := Lib.hid (HB.out.trans (HB3.out.trans (hb3.mono (by omega))))
        have HBox3 : Hid (w3.cell? ⟨w.heap.size, 0, none⟩ = some (.int .i64 x.id) ∧ w3.cell? ⟨w.heap.size, 1, none⟩ = some (.slice x.A x.n x.c) ∧ w3.cell? ⟨w.heap.size + 1, 0, none⟩ = some (.int .i64 y.id) ∧ w3.cell? ⟨w.heap.size + 1, 1, none⟩ = some (.slice y.A y.n y.c)) := Lib.hid (by
          have k : ∀ (bb oo : Nat), bb < w.heap.size + 2 → w3.cell? ⟨bb, oo, none⟩ = wr.cell? ⟨bb, oo, none⟩ := fun bb oo h => (hb3.cell (p := ⟨bb, oo, none⟩) h).trans (HB1.out.cell (p := ⟨bb, oo, none⟩) (Nat.lt_of_lt_of_le h HS2.out))
          have := HBox.out
          rw [k _ _ (by omega), k _ _ (by omega), k _ _ (by omega), k _ _ (by omega)]
          exact this)
        have HS3 := Lib.hid (Nat.le_trans hs2 hb3.size)
        clear hown3 hb3 hin
        go_wp2
        go_roundw
        case rel => exact ⟨k + 1, Ln', Lc', LA', .bin op a b :: s, by omega, by go_num, by first | rfl | rw [hlen3], by omega, HS1.out, by have := HLen.out; simp at this ⊢; omega, by rw [HZ.out]; exact HO3.out, HB4.out, HS3.out, HBox3.out⟩
        case measure => simp [intOf]; omega
    · obtain rfl : k = n := by omega
      have hst := HSt.out
      rw [ptake_all HX.out.len] at hst
      obtain rfl : st = [t] := hst.one HPo.out
      have hO := HO.out
      rw [codes_cons] at hO
      obtain rfl : m = 1 := by have := HLen.out; simp at this; omega
      obtain ⟨_, hcc, hcm, g, rfl, hgl, hgs, hcell⟩ := ownI_cells hO (by omega)
      obtain ⟨c1, -⟩ := hcell 0 (cmpT (wishF x y) t) rfl
      clear hO hst hcell hbel hbox
      go_wp2
      go_ret
      exact ⟨rfl, HB.out⟩
end Go.Proofs.Ytadjoiahllekdaa.num
namespace Go.Proofs.Ytadjoiahllekdaa.num
set_option maxRecDepth 20000
open Go.RowKit
set_option linter.unusedVariables false
set_option linter.unusedSimpArgs false

/-- What CompareBy answers. -/
def CmpE (nds : List ND) (x y : It) (z : Int) : Prop := (∃ t, IsE nds ∧ Post nds t ∧ IsP x.dat ∧ IsP y.dat ∧ z = cmpT (wishF x y) t) ∨ (¬ (IsE nds ∧ IsP x.dat ∧ IsP y.dat) ∧ z = 2)
theorem CmpE.some (nds : List ND) (x y : It) : ∃ z, CmpE nds x y z := by
  by_cases h : IsE nds ∧ IsP x.dat ∧ IsP y.dat
  · obtain ⟨h1, h2, h3⟩ := h
    obtain ⟨_, t, ht⟩ := id h1
    exact ⟨_, .inl ⟨t, h1, ht, h2, h3, rfl⟩⟩
  · exact ⟨2, .inr ⟨h, rfl⟩⟩
theorem CmpE.to {nds nds' : List ND} {x y x' y' : It} {z : Int} (h : CmpE nds x y z) (hn : nds' = nds) (hx : x'.dat = x.dat) (hy : y'.dat = y.dat) : CmpE nds' x' y' z := by
  subst hn
  unfold CmpE at *
  rw [wishF_dat hx hy, hx, hy]
  exact h
theorem CmpE.code {nds : List ND} {x y : It} {z : Int} (h : CmpE nds x y z) : Code z := by
  rcases h with ⟨t, _, _, _, _, rfl⟩ | ⟨_, rfl⟩
  · exact cmpT_code (wishF_code x y) t
  · exact .inr (.inr (.inr rfl))

/-- The pointer to an expression's tree, nil if the expression is not valid. -/
def TreeV (w : World) (B lo : Nat) (nds : List ND) (v : Value) : Prop :=
  (IsE nds ∧ ∃ t p, Post nds t ∧ v = .pointer (some ⟨p, 0, none⟩) ∧ PartAt w B lo t p) ∨ (¬ IsE nds ∧ v = .pointer none)
theorem TreeV.below {w w' : World} {B lo : Nat} {nds : List ND} {v : Value} (h : TreeV w B lo nds v) (hB : B ≤ w.heap.size) (hb : Below w.heap.size w w') : TreeV w' B lo nds v := by
  rcases h with ⟨h, t, p, h1, h2, h3⟩ | h
  · exact .inl ⟨h, t, p, h1, h2, h3.below hB hb⟩
  · exact .inr h
theorem TreeOut.v {w : World} {B lo : Nat} {nds : List ND} {e : Ending} (h : TreeOut B lo nds e w) : ∃ v, e = .returned v ∧ TreeV w B lo nds v := by
  rcases h with ⟨h, t, p, h1, rfl, h3⟩ | ⟨h, rfl⟩
  · exact ⟨_, rfl, .inl ⟨h, t, p, h1, rfl, h3⟩⟩
  · exact ⟨_, rfl, .inr ⟨h, rfl⟩⟩
end Go.Proofs.Ytadjoiahllekdaa.num
namespace Go.Proofs.Ytadjoiahllekdaa.num
set_option maxRecDepth 20000
set_option linter.unusedVariables false
set_option linter.unusedSimpArgs false

theorem okp_of {d : WD} (hw : IsW d) (h4 : d.kind = 4) : OkP d.ps := by
  have hp := hw.p
  rwa [if_pos h4] at hp
theorem rb_not {d : WD} (hw : IsW d) (h4 : d.kind = 4) {x y : Int} (h : rb d.ps x y = true) : rb d.ps y x = false := by
  rcases h2 : rb d.ps y x with _ | _
  · rfl
  · exact ((okp_of hw h4).1.acy x (((rb_iff _ _ _).1 h).trans ((rb_iff _ _ _).1 h2))).elim
theorem rb_self {d : WD} (hw : IsW d) (h4 : d.kind = 4) (x : Int) : rb d.ps x x = false := (okp_of hw h4).1.rb_self x
theorem rb_tr {ps : List (Int × Int)} {x y z : Int} (h : rb ps x y = true) (h' : rb ps y z = true) : rb ps x z = true := (rb_iff _ _ _).2 (((rb_iff _ _ _).1 h).trans ((rb_iff _ _ _).1 h'))
theorem cmpW_turn {d : WD} (hw : IsW d) (x y : Int) : cmpW d y x = revC (cmpW d x y) := by
  unfold cmpW revC
  by_cases h4 : d.kind = 4
  · rw [if_pos h4, if_pos h4]
    by_cases hxy : x = y
    · subst hxy; simp
    · have hyx : ¬ y = x := fun h => hxy h.symm
      rcases h1 : rb d.ps x y with _ | _
      · rcases h2 : rb d.ps y x with _ | _ <;> simp [hxy, hyx]
      · have h2 := rb_not hw h4 h1
        simp [hxy, hyx, h2]
  · rw [if_neg h4, if_neg h4]
    by_cases h1 : rankW d x < rankW d y
    · have h2 : ¬ rankW d y < rankW d x := by omega
      simp [h1, h2]
    · by_cases h2 : rankW d y < rankW d x
      · simp [h1, h2]
      · simp [h1, h2]
theorem cmpW_self (d : WD) (x : Int) : cmpW d x x = 0 := by
  unfold cmpW
  split
  · simp
  · simp
/-- The codes of three comparisons fit. -/
def Tr3 (c d r : Int) : Prop := ((c = 0 ∨ c = 1) → (d = 0 ∨ d = 1) → r = max c d) ∧ ((c = 0 ∨ c = -1) → (d = 0 ∨ d = -1) → r = min c d)
theorem cmpW_tr {d : WD} (hw : IsW d) (x y z : Int) : Tr3 (cmpW d x y) (cmpW d y z) (cmpW d x z) := by
  by_cases h4 : d.kind = 4
  · have e : ∀ a b, cmpW d a b = if a = b then 0 else if rb d.ps a b = true then 1 else if rb d.ps b a = true then -1 else 2 := fun a b => by unfold cmpW; rw [if_pos h4]
    rw [e, e, e]
    by_cases hxy : x = y
    · subst hxy
      unfold Tr3
      rw [if_pos rfl]
      constructor <;> (intro _ h; omega)
    · by_cases hyz : y = z
      · subst hyz
        unfold Tr3
        rw [if_pos rfl]
        constructor <;> (intro h _; omega)
      · rw [if_neg hxy, if_neg hyz]
        unfold Tr3
        rcases h1 : rb d.ps x y with _ | _
        · rcases h2 : rb d.ps y x with _ | _
          · exact ⟨fun h => by simp at h, fun h => by simp at h⟩
          · refine ⟨fun h => by simp at h, fun _ => ?_⟩
            rcases k1 : rb d.ps y z with _ | _
            · rcases k2 : rb d.ps z y with _ | _
              · exact fun h => by simp at h
              · intro _
                have hzx := rb_tr k2 h2
                have hxz := rb_not hw h4 hzx
                have hne : ¬ x = z := fun e => by subst e; rw [rb_self hw h4] at hzx; cases hzx
                rw [if_neg hne, hxz, hzx]
                simp
            · exact fun h => by simp at h
        · refine ⟨fun _ => ?_, fun h => by simp at h⟩
          rcases k1 : rb d.ps y z with _ | _
          · rcases k2 : rb d.ps z y with _ | _
            · exact fun h => by simp at h
            · exact fun h => by simp at h
          · intro _
            have hxz := rb_tr h1 k1
            have hne : ¬ x = z := fun e => by subst e; rw [rb_self hw h4] at hxz; cases hxz
            rw [if_neg hne, hxz]
            simp
  · have e : ∀ a b, cmpW d a b = if rankW d a < rankW d b then 1 else if rankW d b < rankW d a then -1 else 0 := fun a b => by unfold cmpW; rw [if_neg h4]
    rw [e, e, e]
    unfold Tr3
    constructor
    · intro h1 h2
      (repeat' split at h1) <;> (repeat' split at h2) <;> (repeat' split) <;> omega
    · intro h1 h2
      (repeat' split at h1) <;> (repeat' split at h2) <;> (repeat' split) <;> omega
theorem opC_rev {op a b : Int} (ha : Code a) (hb : Code b) : opC op (revC a) (revC b) = revC (opC op a b) := by
  unfold opC
  by_cases h1 : op = 1
  · rw [if_pos h1, if_pos h1]
    rcases ha with rfl | rfl | rfl | rfl <;> rcases hb with rfl | rfl | rfl | rfl <;> decide
  · rw [if_neg h1, if_neg h1]
    by_cases h2 : op = 2
    · rw [if_pos h2, if_pos h2]
      rcases ha with rfl | rfl | rfl | rfl <;> rcases hb with rfl | rfl | rfl | rfl <;> decide
    · rw [if_neg h2, if_neg h2]
      rcases ha with rfl | rfl | rfl | rfl <;> rcases hb with rfl | rfl | rfl | rfl <;> decide
theorem opC_zero (op : Int) : opC op 0 0 = 0 := by
  unfold opC
  split
  · decide
  · split <;> decide
theorem op1_code : ∀ a b : Int, Code a → Code b → ((opC 1 a b = 0 ∨ opC 1 a b = 1) → (a = 0 ∨ a = 1) ∧ (b = 0 ∨ b = 1)) ∧ ((opC 1 a b = 0 ∨ opC 1 a b = -1) → (a = 0 ∨ a = -1) ∧ (b = 0 ∨ b = -1)) ∧ ((a = 0 ∨ a = 1) → (b = 0 ∨ b = 1) → opC 1 a b = max a b) ∧ ((a = 0 ∨ a = -1) → (b = 0 ∨ b = -1) → opC 1 a b = min a b) := by
  intro a b ha hb
  rcases ha with rfl | rfl | rfl | rfl <;> rcases hb with rfl | rfl | rfl | rfl <;> decide
theorem opC_tr {op a b a' b' ra rb' : Int} (ha : Code a) (hb : Code b) (ha' : Code a') (hb' : Code b') (hra : Code ra) (hrb : Code rb') (h : Tr3 a a' ra) (k : Tr3 b b' rb') : Tr3 (opC op a b) (opC op a' b') (opC op ra rb') := by
  by_cases h1 : op = 1
  · subst h1
    obtain ⟨p1, p2, p3, p4⟩ := op1_code a b ha hb
    obtain ⟨q1, q2, q3, q4⟩ := op1_code a' b' ha' hb'
    obtain ⟨r1, r2, r3, r4⟩ := op1_code ra rb' hra hrb
    obtain ⟨h1, h2⟩ := h
    obtain ⟨k1, k2⟩ := k
    constructor
    · intro c d
      obtain ⟨u1, u2⟩ := p1 c
      obtain ⟨v1, v2⟩ := q1 d
      have e1 := h1 u1 v1
      have e2 := k1 u2 v2
      rw [p3 u1 u2, q3 v1 v2, r3 (by omega) (by omega)]
      omega
    · intro c d
      obtain ⟨u1, u2⟩ := p2 c
      obtain ⟨v1, v2⟩ := q2 d
      have e1 := h2 u1 v1
      have e2 := k2 u2 v2
      rw [p4 u1 u2, q4 v1 v2, r4 (by omega) (by omega)]
      omega
  · unfold opC
    rw [if_neg h1, if_neg h1, if_neg h1]
    by_cases h2 : op = 2
    · rw [if_pos h2, if_pos h2, if_pos h2]
      obtain ⟨h1, h2⟩ := h
      obtain ⟨k1, k2⟩ := k
      unfold Tr3 Code at *
      constructor <;> (intro c d; (repeat' split at c) <;> (repeat' split at d) <;> (repeat' split) <;> omega)
    · rw [if_neg h2, if_neg h2, if_neg h2]
      obtain ⟨h1, h2⟩ := h
      obtain ⟨k1, k2⟩ := k
      unfold Tr3 Code at *
      constructor <;> (intro c d; (repeat' split at c) <;> (repeat' split at d) <;> (repeat' split) <;> omega)
theorem revC_tr {a b r : Int} (ha : Code a) (hb : Code b) (hr : Code r) (h : Tr3 a b r) : Tr3 (revC a) (revC b) (revC r) := by
  obtain ⟨h1, h2⟩ := h
  unfold Tr3 Code revC at *
  constructor <;> (intro c d; (repeat' split at c) <;> (repeat' split at d) <;> (repeat' split) <;> omega)
theorem cmpT_turn {nds : List ND} {t : Tr} (h : Post nds t) (x y : It) : cmpT (wishF y x) t = revC (cmpT (wishF x y) t) := by
  induction h with
  | base h hw => exact cmpW_turn hw _ _
  | dual h hw ha ih => unfold cmpT; rw [ih]
  | bin h hw ha hb iha ihb => unfold cmpT; rw [iha, ihb]; exact opC_rev (cmpT_code (wishF_code x y) _) (cmpT_code (wishF_code x y) _)
theorem cmpT_self {nds : List ND} {t : Tr} (h : Post nds t) (x : It) : cmpT (wishF x x) t = 0 := by
  induction h with
  | base h hw => exact cmpW_self _ _
  | dual h hw ha ih => unfold cmpT; rw [ih]; decide
  | bin h hw ha hb iha ihb => unfold cmpT; rw [iha, ihb]; exact opC_zero _
theorem cmpT_tr {nds : List ND} {t : Tr} (h : Post nds t) (x y z : It) : Tr3 (cmpT (wishF x y) t) (cmpT (wishF y z) t) (cmpT (wishF x z) t) := by
  induction h with
  | base h hw => exact cmpW_tr hw _ _ _
  | dual h hw ha ih => exact revC_tr (cmpT_code (wishF_code x y) _) (cmpT_code (wishF_code y z) _) (cmpT_code (wishF_code x z) _) ih
  | bin h hw ha hb iha ihb => exact opC_tr (cmpT_code (wishF_code x y) _) (cmpT_code (wishF_code x y) _) (cmpT_code (wishF_code y z) _) (cmpT_code (wishF_code y z) _) (cmpT_code (wishF_code x z) _) (cmpT_code (wishF_code x z) _) iha ihb
theorem post_wishes {nds : List ND} {t : Tr} (h : Post nds t) : 2 * (wishL nds).length ≤ nds.length + 1 := by
  induction h with
  | base h hw => unfold wishL; simp [h]
  | dual h hw ha ih => rw [wishL_snoc_op (by omega), List.length_append, List.length_singleton]; omega
  | bin h hw ha hb iha ihb =>
    rw [wishL_snoc_op (bin_ne h).1, List.length_append, List.length_singleton]
    unfold wishL at *
    rw [List.filterMap_append, List.length_append, List.length_append]
    omega
theorem wishes_five {q : Bool} {nds : List ND} (hq : q = true ↔ IsE nds) : (wishesE q nds).length ≤ 5 := by
  unfold wishesE
  cases q
  · simp
  · obtain ⟨h9, t, ht⟩ := hq.1 rfl
    have := post_wishes ht
    simp only [if_true]
    omega
theorem CmpE.turn {nds : List ND} {x y : It} {z z' : Int} (h : CmpE nds x y z) (h' : CmpE nds y x z') : z' = revC z := by
  rcases h with ⟨t, a1, a2, a3, a4, rfl⟩ | ⟨a1, rfl⟩
  · rcases h' with ⟨t', b1, b2, b3, b4, rfl⟩ | ⟨b1, rfl⟩
    · rw [b2.one a2]; exact cmpT_turn a2 x y
    · exact absurd ⟨a1, a4, a3⟩ b1
  · rcases h' with ⟨t', b1, b2, b3, b4, rfl⟩ | ⟨b1, rfl⟩
    · exact absurd ⟨b1, b4, b3⟩ a1
    · decide
theorem CmpE.self {nds : List ND} {x : It} {z : Int} (h : CmpE nds x x z) (h1 : IsE nds) (h2 : IsP x.dat) : z = 0 := by
  rcases h with ⟨t, a1, a2, a3, a4, rfl⟩ | ⟨a1, rfl⟩
  · exact cmpT_self a2 x
  · exact absurd ⟨h1, h2, h2⟩ a1
theorem CmpE.tr {nds : List ND} {x y z : It} {c d r : Int} (h : CmpE nds x y c) (h' : CmpE nds y z d) (h'' : CmpE nds x z r) (hc : c ≠ 2) (hd : d ≠ 2) (c0 : 0 ≤ c) (d0 : 0 ≤ d) : r = max c d := by
  have kc := h.code
  have kd := h'.code
  rcases h with ⟨t, a1, a2, a3, a4, rfl⟩ | ⟨a1, rfl⟩
  · rcases h' with ⟨t', b1, b2, b3, b4, rfl⟩ | ⟨b1, rfl⟩
    · rcases h'' with ⟨t2, e1, e2, e3, e4, rfl⟩ | ⟨e1, rfl⟩
      · rw [b2.one a2] at *
        rw [e2.one a2]
        unfold Code at *
        exact (cmpT_tr a2 x y z).1 (by omega) (by omega)
      · exact absurd ⟨a1, a3, b4⟩ e1
    · exact absurd rfl hd
  · exact absurd rfl hc
theorem code_neq {c : Int} (h : Code c) : (c = 2 ∧ revC c = 2) ∨ (c ≠ 2 ∧ revC c = -c ∧ revC c ≠ 2) := by
  unfold Code revC at *
  rcases h with rfl | rfl | rfl | rfl <;> decide
end Go.Proofs.Ytadjoiahllekdaa.num
namespace Go.Proofs.Ytadjoiahllekdaa.num
set_option maxRecDepth 20000
open Go.RowKit

/-- The first item of that number, or -1. -/
def FindP (ds : List (Int × List Int)) (x r : Int) : Prop := (r = -1 ∧ ∀ d ∈ ds, d.1 ≠ x) ∨ ∃ k : Nat, r = k ∧ (∃ d, ds[k]? = some d ∧ d.1 = x) ∧ ∀ d ∈ ds.take k, d.1 ≠ x
theorem FindP.one {ds : List (Int × List Int)} {x r s : Int} (h : FindP ds x r) (g : FindP ds x s) : r = s := by
  have aux : ∀ {k : Nat}, (∃ d, ds[k]? = some d ∧ d.1 = x) → (∀ d ∈ ds, d.1 ≠ x) → False := fun ⟨d, hd, he⟩ hn => hn d (mem_of_at hd) he
  have aux2 : ∀ {k j : Nat}, k < j → (∃ d, ds[k]? = some d ∧ d.1 = x) → (∀ d ∈ ds.take j, d.1 ≠ x) → False := fun {k j} hkj ⟨d, hd, he⟩ hn => hn d (mem_of_at (k := k) (by rw [List.getElem?_take_of_lt hkj]; exact hd)) he
  rcases h with ⟨rfl, h⟩ | ⟨k, rfl, hk, h⟩ <;> rcases g with ⟨rfl, g⟩ | ⟨j, rfl, hj, g⟩
  · rfl
  · exact (aux hj h).elim
  · exact (aux hk g).elim
  · rcases Nat.lt_trichotomy k j with h1 | h1 | h1
    · exact (aux2 h1 hk g).elim
    · rw [h1]
    · exact (aux2 h1 hj h).elim
theorem FindP.hit {its : List It} {x : Int} {k : Nat} {t : It} (hat : its[k]? = some t) (he : t.id = x) (h : ∀ u ∈ its.take k, u.id ≠ x) : FindP (its.map It.dat) x k :=
  .inr ⟨k, rfl, ⟨t.dat, by simp [hat], he⟩, fun d hd => by
    rw [← List.map_take] at hd
    obtain ⟨u, hu, rfl⟩ := List.mem_map.1 hd
    exact h u hu⟩
theorem FindP.miss {its : List It} {x : Int} (h : ∀ u ∈ its, u.id ≠ x) : FindP (its.map It.dat) x (-1) :=
  .inl ⟨rfl, fun d hd => by
    obtain ⟨u, hu, rfl⟩ := List.mem_map.1 hd
    exact h u hu⟩
theorem ne_step {its : List It} {x : Int} {k : Nat} {t : It} (hat : its[k]? = some t) (h : ∀ u ∈ its.take k, u.id ≠ x) (h1 : t.id ≠ x) : ∀ u ∈ its.take (k + 1), u.id ≠ x := by
  rw [take_at hat]
  intro u hu
  rcases List.mem_append.1 hu with h2 | h2
  · exact h u h2
  · obtain rfl := List.mem_singleton.1 h2
    exact h1

theorem sFind (w : World) (B : Nat) (A : Option Addr) (n c : Nat) (its : List It) (hi : Items w B A n its) (hB : B ≤ w.heap.size) (hn : n ≤ 1048576) (x : Int) :
    Calls Try.prog 25 #[.slice A n c, .int .i64 x] w fun e w' => (∃ r, e = .returned (.int .i64 r) ∧ FindP (its.map It.dat) x r) ∧ Below w.heap.size w w' := by
  have HX := Lib.hid hi
  clear hi
  go_enter Try.func25, Try.ntmps25
  go_wp2
  go_loopw [5] (fun i wr => ∃ k : Nat, k ≤ n ∧ i = .int .i64 k ∧ (∀ u ∈ its.take k, u.id ≠ x) ∧ Below w.heap.size w wr) (fun i _ => n - (intOf i).toNat)
  case atStart => exact ⟨0, Nat.zero_le _, rfl, by simp, Below.refl _ _⟩
  case round =>
    obtain ⟨k, hk, rfl, hall, hbel⟩ := hrel
    have HA := Lib.hid hall
    have HB := Lib.hid hbel
    clear hall
    by_cases hlt : k < n
    · obtain ⟨b1, off, t, rfl, hb1, hat, hc1, _, _⟩ := HX.out.at k hlt
      have f1 := (hbel.cell (p := ⟨b1, off + k * 2, none⟩) (by exact Nat.lt_of_lt_of_le hb1 hB)).trans hc1
      have HAt := Lib.hid hat
      clear hc1 hat hbel
      by_cases he : t.id = x
      · have he' : (t.id == x) = true := by simpa using he
        have HE := Lib.hid he
        clear he
        go_wp2
        go_ret
        exact ⟨⟨_, rfl, FindP.hit HAt.out HE.out HA.out⟩, HB.out⟩
      · have he' : (t.id == x) = false := by simpa using he
        have HE := Lib.hid he
        clear he
        go_wp2
        go_roundw
        case rel => exact ⟨k + 1, by omega, by go_num, ne_step HAt.out HA.out HE.out, HB.out⟩
        case measure => simp [intOf]; omega
    · obtain rfl : k = n := by omega
      clear hbel
      go_wp2
      go_ret
      exact ⟨⟨_, rfl, FindP.miss (by have := HA.out; rwa [take_all HX.out.1] at this)⟩, HB.out⟩

end Go.Proofs.Ytadjoiahllekdaa.num
namespace Go.Proofs.Ytadjoiahllekdaa.num
set_option maxRecDepth 20000
set_option linter.unusedVariables false
set_option linter.unusedSimpArgs false

/-- What an item says: its number and its values. -/
abbrev Dt := Int × List Int
def dIt (d : Dt) : It := ⟨d.1, none, 0, 0, d.2⟩
/-- How x compares with y. -/
def cmpD (t : Tr) (x y : Dt) : Int := cmpT (wishF (dIt x) (dIt y)) t
theorem cmpD_it (t : Tr) (x y : It) : cmpT (wishF x y) t = cmpD t x.dat y.dat := by
  unfold cmpD
  rw [wishF_dat (x := dIt x.dat) (x' := x) (y := dIt y.dat) (y' := y) rfl rfl]
theorem cmpD_code (t : Tr) (x y : Dt) : Code (cmpD t x y) := cmpT_code (wishF_code _ _) t
theorem cmpD_turn {nds : List ND} {t : Tr} (h : Post nds t) (x y : Dt) : cmpD t y x = revC (cmpD t x y) := cmpT_turn h _ _
theorem cmpD_self {nds : List ND} {t : Tr} (h : Post nds t) (x : Dt) : cmpD t x x = 0 := cmpT_self h _
theorem cmpD_tr {nds : List ND} {t : Tr} (h : Post nds t) (x y z : Dt) : Tr3 (cmpD t x y) (cmpD t y z) (cmpD t x z) := cmpT_tr h _ _ _
/-- x is better than y. -/
def btD (t : Tr) (x y : Dt) : Bool := cmpD t x y == 1
def lvB (t : Tr) (x y : Dt) : Bool := !btD t x y && !btD t y x
def bestB (t : Tr) (ds : List Dt) (x : Dt) : Bool := ds.all fun y => !btD t y x
def bestD (t : Tr) (ds : List Dt) : List Dt := ds.filter (bestB t ds)
def domD (t : Tr) (ds : List Dt) (x : Dt) : List Dt := ds.filter fun y => btD t y x
def subD (t : Tr) (ds : List Dt) (x : Dt) : List Dt := ds.filter fun y => btD t x y
def lvD (t : Tr) (ds : List Dt) (x : Dt) : List Dt := ds.filter fun y => lvB t x y
def mostD (t : Tr) (ds : List Dt) : List Dt → Nat
  | [] => 0
  | x :: r => max (lvD t ds x).length (mostD t ds r)
def idsD (ds : List Dt) : List Int := ds.map (·.1)
theorem mostD_snoc (t : Tr) (ds : List Dt) (x : Dt) : ∀ l, mostD t ds (l ++ [x]) = max (mostD t ds l) (lvD t ds x).length
  | [] => by simp [mostD]
  | y :: r => by rw [List.cons_append, mostD, mostD_snoc t ds x r, mostD]; omega
theorem mostD_le (t : Tr) (ds : List Dt) : ∀ l, mostD t ds l ≤ ds.length
  | [] => by simp [mostD]
  | y :: r => by
    have h1 := mostD_le t ds r
    have h2 : (lvD t ds y).length ≤ ds.length := List.length_filter_le _ _
    rw [mostD]; omega
theorem mostD_mem {t : Tr} {ds : List Dt} {x : Dt} : ∀ {l : List Dt}, x ∈ l → (lvD t ds x).length ≤ mostD t ds l
  | y :: r, h => by
    rcases List.mem_cons.1 h with rfl | h
    · rw [mostD]; omega
    · have := mostD_mem (t := t) (ds := ds) h
      rw [mostD]; omega
/-- The greatest count of items that lev takes beside one of l. -/
def mostL (lev : It → It → Bool) (its : List It) : List It → Nat
  | [] => 0
  | x :: r => max (its.filter (lev x)).length (mostL lev its r)
theorem mostL_snoc (lev : It → It → Bool) (its : List It) (x : It) : ∀ l, mostL lev its (l ++ [x]) = max (mostL lev its l) (its.filter (lev x)).length
  | [] => by simp [mostL]
  | y :: r => by rw [List.cons_append, mostL, mostL_snoc lev its x r, mostL]; omega
theorem mostL_le (lev : It → It → Bool) (its : List It) : ∀ l, mostL lev its l ≤ its.length
  | [] => by simp [mostL]
  | y :: r => by
    have h1 := mostL_le lev its r
    have h2 : (its.filter (lev y)).length ≤ its.length := List.length_filter_le _ _
    rw [mostL]; omega
theorem mostD_it (t : Tr) (its : List It) : ∀ l : List It, mostD t (its.map It.dat) (l.map It.dat) = mostL (fun x y => lvB t x.dat y.dat) its l
  | [] => rfl
  | y :: r => by
    rw [List.map_cons, mostD, mostL, mostD_it t its r]
    congr 1
    unfold lvD
    rw [List.filter_map, List.length_map]
    rfl
/-- The answer of a function that asks first whether what came in is valid. -/
def AnsP {β : Type} (nds : List ND) (ds : List Dt) (f : Tr → β) (z r : β) : Prop := (∃ t, IsE nds ∧ AreP ds ∧ Post nds t ∧ r = f t) ∨ (¬ (IsE nds ∧ AreP ds) ∧ r = z)
section
variable {β : Type} {nds : List ND} {ds : List Dt} {f : Tr → β} {z r r' : β}
theorem AnsP.some (nds : List ND) (ds : List Dt) (f : Tr → β) (z : β) : ∃ r, AnsP nds ds f z r := by
  by_cases h : IsE nds ∧ AreP ds
  · obtain ⟨t, ht⟩ := h.1.2
    exact ⟨f t, .inl ⟨t, h.1, h.2, ht, rfl⟩⟩
  · exact ⟨z, .inr ⟨h, rfl⟩⟩
theorem AnsP.yes (h : AnsP nds ds f z r) (h1 : IsE nds) (h2 : AreP ds) {t : Tr} (ht : Post nds t) : r = f t := by
  rcases h with ⟨t', _, _, ht', rfl⟩ | ⟨hn, _⟩
  · rw [ht'.one ht]
  · exact absurd ⟨h1, h2⟩ hn
theorem AnsP.no (h : AnsP nds ds f z r) (hn : ¬ (IsE nds ∧ AreP ds)) : r = z := by
  rcases h with ⟨t', h1, h2, _⟩ | ⟨_, h⟩
  · exact absurd ⟨h1, h2⟩ hn
  · exact h
theorem AnsP.one (h : AnsP nds ds f z r) (h' : AnsP nds ds f z r') : r = r' := by
  rcases h with ⟨t, h1, h2, h3, rfl⟩ | ⟨hn, rfl⟩
  · exact (h'.yes h1 h2 h3).symm
  · exact (h'.no hn).symm
theorem AnsP.all (h : AnsP nds ds f z r) {P : β → Prop} (hf : AreP ds → ∀ t, Post nds t → P (f t)) (hz : P z) : P r := by
  rcases h with ⟨t, h1, h2, h3, rfl⟩ | ⟨hn, rfl⟩
  · exact hf h2 t h3
  · exact hz
end
/-- The item of that number. -/
def findD (ds : List Dt) (x : Int) : Option Dt := ds.find? fun d => d.1 == x
theorem findD_no {ds : List Dt} {x : Int} (h : ∀ d ∈ ds, d.1 ≠ x) : findD ds x = none := by
  unfold findD
  rw [List.find?_eq_none]
  intro d hd
  simpa using h d hd
theorem findD_yes : ∀ {ds : List Dt} {x : Int} {k : Nat} {d : Dt}, ds[k]? = some d → d.1 = x → (∀ u ∈ ds.take k, u.1 ≠ x) → findD ds x = some d
  | [], _, _, _, h, _, _ => by simp at h
  | y :: r, x, 0, d, h, he, _ => by
    simp at h
    subst h
    simp [findD, he]
  | y :: r, x, k + 1, d, h, he, hn => by
    have h1 : y.1 ≠ x := hn y (by simp)
    have ih := findD_yes (ds := r) (k := k) (by simpa using h) he fun u hu => hn u (by simp [hu])
    unfold findD at ih ⊢
    rw [List.find?_cons, show (y.1 == x) = false by simpa using h1]
    exact ih
theorem FindP.find {ds : List Dt} {x r : Int} (h : FindP ds x r) : (r = -1 ∧ findD ds x = none) ∨ ∃ (k : Nat) (d : Dt), r = k ∧ ds[k]? = some d ∧ d.1 = x ∧ findD ds x = some d := by
  rcases h with ⟨rfl, h⟩ | ⟨k, rfl, ⟨d, hd, he⟩, h⟩
  · exact .inl ⟨rfl, findD_no h⟩
  · exact .inr ⟨k, d, rfl, hd, he, findD_yes hd he h⟩
/-- What each function answers. -/
def BestP (nds : List ND) (ds : List Dt) (r : List Int) : Prop := AnsP nds ds (fun t => idsD (bestD t ds)) [] r
def onFind {β : Type} (ds : List Dt) (x : Int) (z : β) (f : Dt → β) : β := match findD ds x with | none => z | some d => f d
def DomP (nds : List ND) (ds : List Dt) (x : Int) (r : List Int) : Prop := AnsP nds ds (fun t => onFind ds x [] fun d => idsD (domD t ds d)) [] r
def SubP (nds : List ND) (ds : List Dt) (x : Int) (r : List Int) : Prop := AnsP nds ds (fun t => onFind ds x [] fun d => idsD (subD t ds d)) [] r
def RankP (nds : List ND) (ds : List Dt) (x : Int) (r : Int) : Prop := AnsP nds ds (fun t => onFind ds x (-1) fun d => (((domD t ds d).length : Nat) : Int)) (-1) r
def WidP (nds : List ND) (ds : List Dt) (r : Int) : Prop := AnsP nds ds (fun t => ((mostD t ds ds : Nat) : Int)) 0 r
def IsBP (nds : List ND) (ds : List Dt) (x : Int) (b : Bool) : Prop := AnsP nds ds (fun t => decide (x ∈ idsD (bestD t ds))) false b
theorem IsBP.iff {nds : List ND} {ds : List Dt} {x : Int} {b : Bool} {l : List Int} (h : IsBP nds ds x b) (g : BestP nds ds l) : b = true ↔ x ∈ l := by
  rcases h with ⟨t, h1, h2, h3, rfl⟩ | ⟨hn, rfl⟩
  · rw [g.yes h1 h2 h3]; exact decide_eq_true_iff
  · rw [g.no hn]; simp
theorem onFind_some {β : Type} {ds : List Dt} {x : Int} {z : β} {f : Dt → β} {d : Dt} (h : findD ds x = some d) : onFind ds x z f = f d := by unfold onFind; rw [h]
theorem onFind_none {β : Type} {ds : List Dt} {x : Int} {z : β} {f : Dt → β} (h : findD ds x = none) : onFind ds x z f = z := by unfold onFind; rw [h]
theorem DomP.none {nds : List ND} {ds : List Dt} {x : Int} {l : List Int} (h : DomP nds ds x l) (hf : findD ds x = none) : l = [] := h.all (P := fun l => l = []) (fun _ t _ => onFind_none hf) rfl
theorem SubP.none {nds : List ND} {ds : List Dt} {x : Int} {l : List Int} (h : SubP nds ds x l) (hf : findD ds x = none) : l = [] := h.all (P := fun l => l = []) (fun _ t _ => onFind_none hf) rfl
theorem ids_le {ds : List Dt} {p : Dt → Bool} (h : AreP ds) : (idsD (ds.filter p)).length ≤ 16 := by
  have h1 : (ds.filter p).length ≤ ds.length := List.length_filter_le _ _
  have h2 := h.2.2
  unfold idsD
  rw [List.length_map]; omega
theorem BestP.small {nds : List ND} {ds : List Dt} {r : List Int} (h : BestP nds ds r) : r.length ≤ 16 := h.all (P := fun r => r.length ≤ 16) (fun ha t _ => ids_le ha) (by simp)
theorem DomP.small {nds : List ND} {ds : List Dt} {x : Int} {r : List Int} (h : DomP nds ds x r) : r.length ≤ 16 := h.all (P := fun r => r.length ≤ 16) (fun ha t _ => by unfold onFind; split; simp; exact ids_le ha) (by simp)
theorem SubP.small {nds : List ND} {ds : List Dt} {x : Int} {r : List Int} (h : SubP nds ds x r) : r.length ≤ 16 := h.all (P := fun r => r.length ≤ 16) (fun ha t _ => by unfold onFind; split; simp; exact ids_le ha) (by simp)
theorem RankP.small {nds : List ND} {ds : List Dt} {x r : Int} (h : RankP nds ds x r) : -1 ≤ r ∧ r ≤ 16 := h.all (P := fun r => -1 ≤ r ∧ r ≤ 16) (fun ha t _ => by
  unfold onFind
  split
  · omega
  · rename_i d _
    have h1 : (domD t ds d).length ≤ ds.length := List.length_filter_le _ _
    have h2 := ha.2.2
    show -1 ≤ ((domD t ds d).length : Int) ∧ ((domD t ds d).length : Int) ≤ 16
    omega) (by omega)
theorem WidP.small {nds : List ND} {ds : List Dt} {r : Int} (h : WidP nds ds r) : 0 ≤ r ∧ r ≤ 16 := h.all (P := fun r => 0 ≤ r ∧ r ≤ 16) (fun ha t _ => by
  have h1 := mostD_le t ds ds
  have h2 := ha.2.2
  omega) (by omega)
theorem rank_dom {nds : List ND} {ds : List Dt} {x r : Int} {l : List Int} (h : RankP nds ds x r) (g : DomP nds ds x l) (hv : IsE nds) (ha : AreP ds) {d : Dt} (hd : findD ds x = some d) : r = l.length := by
  obtain ⟨t, ht⟩ := hv.2
  rw [h.yes hv ha ht, g.yes hv ha ht]
  simp [onFind, hd, idsD]
theorem lv_code {nds : List ND} {t : Tr} (h : Post nds t) (x y : Dt) : lvB t x y = (cmpD t x y == 2 || cmpD t x y == 0) := by
  have h1 := cmpD_turn h x y
  unfold lvB btD
  rw [h1]
  rcases cmpD_code t x y with e | e | e | e <;> rw [e] <;> rfl
end Go.Proofs.Ytadjoiahllekdaa.num
namespace Go.Proofs.Ytadjoiahllekdaa.num
set_option maxRecDepth 20000
open Go.RowKit
set_option linter.unusedVariables false
set_option linter.unusedSimpArgs false

theorem lawHas (w : World) (B : Nat) (A : Option Addr) (n c : Nat) (xs : List Int) (hi : Ints w B A n xs) (hn : n ≤ 2000000) (x : Int) (b : Bool) (hb : b = true ↔ x ∈ xs) :
    Calls Try.prog 20 #[.slice A n c, .int .i64 x] w fun e w' => e = .returned (.bool b) ∧ w = w' := by
  have HX := Lib.hid hi
  have HB := Lib.hid hb
  clear hi hb
  go_enter Try.func20, Try.ntmps20
  go_wp2
  go_loopw [5] (fun i wr => ∃ k : Nat, k ≤ n ∧ i = .int .i64 k ∧ (∀ y ∈ xs.take k, y ≠ x) ∧ wr = w) (fun i _ => n - (intOf i).toNat)
  case atStart => exact ⟨0, Nat.zero_le _, rfl, by simp, rfl⟩
  case round =>
    obtain ⟨k, hk, rfl, hne, rfl⟩ := hrel
    have HN := Lib.hid hne
    clear hne
    by_cases hlt : k < n
    · obtain ⟨b1, off, y, rfl, hb1, hat, hc⟩ := HX.out.at k hlt
      have HT := Lib.hid hat
      clear hat
      by_cases he : y = x
      · subst he
        obtain rfl : b = true := HB.out.2 (List.mem_of_getElem? HT.out)
        go_wp2
        go_ret
        exact ⟨rfl, rfl⟩
      · have he1 : (y == x) = false := by simpa using he
        have HE := Lib.hid he
        clear he
        go_wp2
        go_roundw
        case rel =>
          refine ⟨k + 1, by omega, by go_num, ?_, by first | rfl | trivial⟩
          rw [ptake_at HT.out]
          intro z hz
          rcases List.mem_append.1 hz with hz | hz
          · exact HN.out z hz
          · rw [List.mem_singleton.1 hz]; exact HE.out
        case measure => simp [intOf]; omega
    · obtain rfl : k = n := by omega
      obtain rfl : b = false := by
        cases b
        · rfl
        · have h := HN.out
          rw [ptake_all HX.out.1] at h
          exact absurd rfl (h x (HB.out.1 rfl))
      go_wp2
      go_ret
      exact ⟨rfl, rfl⟩


theorem rise_lt {l : List Int} {k : Nat} (h : Rise l k) : ∀ {j i : Nat}, i < j → j < k → l.getD i 0 < l.getD j 0
  | 0, i, h1, _ => by omega
  | j + 1, i, h1, h2 => by
    have h3 := h (j + 1) (by omega) h2
    rw [Nat.add_sub_cancel] at h3
    rcases Nat.lt_or_ge i j with g | g
    · have := rise_lt h g (show j < k by omega); omega
    · obtain rfl : i = j := by omega
      exact h3
/-- A number is borne by one item. -/
theorem id_one {ds : List Dt} (h : AreP ds) {x y : Dt} (hx : x ∈ ds) (hy : y ∈ ds) (he : x.1 = y.1) : x = y := by
  obtain ⟨i, hi, rfl⟩ := List.getElem_of_mem hx
  obtain ⟨j, hj, rfl⟩ := List.getElem_of_mem hy
  have key : ∀ {a b : Nat} (ha : a < ds.length) (hb : b < ds.length), a < b → ds[a].1 = ds[b].1 → False := fun {a b} ha hb hab e => by
    have h1 := rise_lt h.2.1 hab hb
    simp only [List.getD_eq_getElem?_getD, List.getElem?_map, List.getElem?_eq_getElem ha, List.getElem?_eq_getElem hb, Option.map_some, Option.getD_some] at h1
    omega
  rcases Nat.lt_trichotomy i j with g | g | g
  · exact (key hi hj g he).elim
  · subst g; rfl
  · exact (key hj hi g he.symm).elim
theorem findD_mem {ds : List Dt} {x : Int} {d : Dt} (h : findD ds x = some d) : d ∈ ds ∧ d.1 = x := by
  unfold findD at h
  exact ⟨List.mem_of_find?_eq_some h, by have := List.find?_some h; simpa using this⟩
theorem findD_of {ds : List Dt} (h : AreP ds) {d : Dt} (hd : d ∈ ds) : findD ds d.1 = some d := by
  cases hf : findD ds d.1 with
  | none =>
    unfold findD at hf
    rw [List.find?_eq_none] at hf
    exact absurd (by simp) (hf d hd)
  | some u =>
    obtain ⟨h1, h2⟩ := findD_mem hf
    rw [id_one h h1 hd h2]
theorem mem_ids {ds l : List Dt} (h : AreP ds) (hl : ∀ u ∈ l, u ∈ ds) {d : Dt} (hd : d ∈ ds) : d.1 ∈ idsD l ↔ d ∈ l := by
  unfold idsD
  rw [List.mem_map]
  constructor
  · rintro ⟨u, hu, he⟩
    rwa [← id_one h (hl u hu) hd he]
  · intro h1
    exact ⟨d, h1, rfl⟩
theorem bt_irr {nds : List ND} {t : Tr} (h : Post nds t) (x : Dt) : btD t x x = false := by unfold btD; rw [cmpD_self h]; rfl
theorem bt_tr {nds : List ND} {t : Tr} (h : Post nds t) {x y z : Dt} (h1 : btD t x y = true) (h2 : btD t y z = true) : btD t x z = true := by
  unfold btD at *
  have e1 : cmpD t x y = 1 := by simpa using h1
  have e2 : cmpD t y z = 1 := by simpa using h2
  have h3 := (cmpD_tr h x y z).1 (.inr e1) (.inr e2)
  rw [e1, e2] at h3
  rw [h3]; rfl
theorem filtD_lt {α : Type} {p q : α → Bool} {l : List α} (hpq : ∀ x ∈ l, p x = true → q x = true) {a : α} (ha : a ∈ l) (h1 : p a = false) (h2 : q a = true) : (l.filter p).length < (l.filter q).length := by
  induction l with
  | nil => cases ha
  | cons b r ih =>
    have hle : (r.filter p).length ≤ (r.filter q).length := by
      clear ih ha
      induction r with
      | nil => simp
      | cons c s ih2 =>
        have ih3 := ih2 fun x hx => hpq x (by rcases List.mem_cons.1 hx with rfl | hx; exact List.mem_cons_self; exact List.mem_cons_of_mem _ (List.mem_cons_of_mem _ hx))
        rw [List.filter_cons, List.filter_cons]
        by_cases hc : p c = true
        · have hq := hpq c (by simp) hc
          rw [if_pos hc, if_pos hq]; simp; exact ih3
        · rw [if_neg hc]
          split
          · simp; omega
          · exact ih3
    rw [List.filter_cons, List.filter_cons]
    rcases List.mem_cons.1 ha with rfl | ha
    · rw [if_neg (by rw [h1]; simp), if_pos h2]; simp; omega
    · have ih4 := ih (fun x hx => hpq x (List.mem_cons_of_mem _ hx)) ha
      by_cases hb : p b = true
      · rw [if_pos hb, if_pos (hpq b List.mem_cons_self hb)]; simp; exact ih4
      · rw [if_neg hb]
        split
        · simp; omega
        · exact ih4
/-- Every item that is not best is dominated by one that is. -/
theorem best_above {nds : List ND} {t : Tr} (ht : Post nds t) (ds : List Dt) : ∀ (N : Nat) (x y : Dt), (domD t ds x).length ≤ N → y ∈ ds → btD t y x = true → ∃ b ∈ ds, bestB t ds b = true ∧ btD t b x = true := by
  intro N
  induction N with
  | zero =>
    intro x y hN hy hb
    have : y ∈ domD t ds x := List.mem_filter.2 ⟨hy, hb⟩
    have h0 : domD t ds x = [] := List.eq_nil_of_length_eq_zero (by omega)
    rw [h0] at this; cases this
  | succ N ih =>
    intro x y hN hy hb
    by_cases hbe : bestB t ds y = true
    · exact ⟨y, hy, hbe, hb⟩
    · obtain ⟨z, hz, hzy⟩ : ∃ z ∈ ds, btD t z y = true := by
        unfold bestB at hbe
        apply Classical.byContradiction
        intro hno
        apply hbe
        rw [List.all_eq_true]
        intro z hz
        by_cases hzy : btD t z y = true
        · exact absurd ⟨z, hz, hzy⟩ hno
        · simpa using hzy
      have hlt : (domD t ds y).length < (domD t ds x).length := by
        refine filtD_lt (p := fun u => btD t u y) (q := fun u => btD t u x) (fun u _ hu => bt_tr ht hu hb) hy (bt_irr ht y) hb
      obtain ⟨b, h1, h2, h3⟩ := ih y z (by omega) hz hzy
      exact ⟨b, h1, h2, bt_tr ht h3 hb⟩
theorem best_level {t : Tr} {ds : List Dt} : (bestD t ds).length ≤ mostD t ds ds := by
  cases hb : bestD t ds with
  | nil => simp
  | cons b r =>
    have hm : b ∈ bestD t ds := by rw [hb]; exact List.mem_cons_self
    obtain ⟨h1, h2⟩ := List.mem_filter.1 hm
    have h3 : (bestD t ds).length ≤ (lvD t ds b).length := by
      have h4 : bestD t ds = (lvD t ds b).filter (bestB t ds) := by
        unfold lvD bestD
        rw [List.filter_filter]
        apply List.filter_congr
        intro y hy
        by_cases hby : bestB t ds y = true
        · have e1 : btD t b y = false := by
            unfold bestB at hby
            have := List.all_eq_true.1 hby b h1
            simpa using this
          have e2 : btD t y b = false := by
            unfold bestB at h2
            have := List.all_eq_true.1 h2 y hy
            simpa using this
          simp [lvB, e1, e2, hby]
        · simp [hby]
      rw [h4]
      exact List.length_filter_le _ _
    rw [← hb]
    exact Nat.le_trans h3 (mostD_mem h1)
/-- What FnBest says of the answers. -/
structure BestFacts (x : Int) (LB LD : List Int) (R W : Int) : Prop where
  some : LD ≠ [] → ∃ y ∈ LD, y ∈ LB
  best : x ∈ LB ↔ LD = []
  rank : R = LD.length
  wide : (LB.length : Int) ≤ W
theorem best_facts {nds : List ND} {ds : List Dt} {x : Int} {LB LD : List Int} {R W : Int} (hb : BestP nds ds LB) (hd : DomP nds ds x LD) (hr : RankP nds ds x R) (hw : WidP nds ds W) (he : IsE nds) (ha : AreP ds) {d : Dt} (hf : findD ds x = some d) : BestFacts x LB LD R W := by
  obtain ⟨t, ht⟩ := he.2
  obtain ⟨hdm, rfl⟩ := findD_mem hf
  have e1 := hb.yes he ha ht
  have e2 : LD = idsD (domD t ds d) := by rw [hd.yes he ha ht, onFind_some hf]
  have e3 := hw.yes he ha ht
  have hsub : ∀ {p : Dt → Bool}, ∀ u ∈ ds.filter p, u ∈ ds := fun u hu => (List.mem_filter.1 hu).1
  refine ⟨fun hne => ?_, ?_, rank_dom hr hd he ha hf, ?_⟩
  · obtain ⟨y, hy⟩ : ∃ y, y ∈ domD t ds d := by
      cases hdd : domD t ds d with
      | nil => rw [e2, hdd] at hne; exact absurd rfl hne
      | cons y r => exact ⟨y, List.mem_cons_self⟩
    obtain ⟨h1, h2⟩ := List.mem_filter.1 hy
    obtain ⟨b, h3, h4, h5⟩ := best_above ht ds _ d y (Nat.le_refl _) h1 h2
    refine ⟨b.1, ?_, ?_⟩
    · rw [e2]; exact List.mem_map_of_mem (List.mem_filter.2 ⟨h3, h5⟩)
    · rw [e1]; exact List.mem_map_of_mem (List.mem_filter.2 ⟨h3, h4⟩)
  · rw [e1, e2, show idsD (bestD t ds) = idsD (ds.filter (bestB t ds)) from rfl, mem_ids ha hsub hdm]
    constructor
    · intro h1
      have h2 := (List.mem_filter.1 h1).2
      have h3 : domD t ds d = [] := by
        unfold domD
        rw [List.filter_eq_nil_iff]
        intro u hu
        unfold bestB at h2
        have := List.all_eq_true.1 h2 u hu
        simpa using this
      rw [h3]; rfl
    · intro h1
      refine List.mem_filter.2 ⟨hdm, ?_⟩
      unfold bestB
      rw [List.all_eq_true]
      intro u hu
      by_cases hbu : btD t u d = true
      · have hm : u.1 ∈ idsD (domD t ds d) := List.mem_map_of_mem (List.mem_filter.2 ⟨hu, hbu⟩)
        rw [h1] at hm; cases hm
      · simpa using hbu
  · rw [e1, e3]
    have h1 := best_level (t := t) (ds := ds)
    unfold idsD
    rw [List.length_map]
    omega
/-- Who is among the dominators has the item among those that it dominates. -/
theorem sub_of {nds : List ND} {ds : List Dt} {x y : Int} {LD LS : List Int} (hd : DomP nds ds x LD) (hs : SubP nds ds y LS) (he : IsE nds) (ha : AreP ds) {d : Dt} (hf : findD ds x = some d) (hy : y ∈ LD) : x ∈ LS := by
  obtain ⟨t, ht⟩ := he.2
  obtain ⟨hdm, rfl⟩ := findD_mem hf
  rw [hd.yes he ha ht, onFind_some hf] at hy
  obtain ⟨u, hu, rfl⟩ := List.mem_map.1 hy
  obtain ⟨h1, h2⟩ := List.mem_filter.1 hu
  rw [hs.yes he ha ht, onFind_some (findD_of ha h1)]
  exact List.mem_map_of_mem (List.mem_filter.2 ⟨hdm, h2⟩)
end Go.Proofs.Ytadjoiahllekdaa.num
namespace Go.Proofs.Ytadjoiahllekdaa.num
set_option maxRecDepth 20000
open Go.RowKit
set_option linter.unusedSimpArgs false

/-- IsItem in a world that still bears what held of w0 below its end. -/
theorem iIsItem_in (w0 w : World) (B : Nat) (t : It) (hi : Ints w0 B t.A t.n t.xs) (hB : B ≤ w0.heap.size) (hw : Below w0.heap.size w0 w) (b : Bool) (hb : b = true ↔ IsP t.dat) :
    Calls Try.prog 89 #[t.val] w fun e w' => e = .returned (.bool b) ∧ Below w0.heap.size w0 w' :=
  (iIsItem w B t (hi.below (hw.mono hB)) (Nat.le_trans hB hw.size) b hb).mono fun _ _ ⟨he, h⟩ => ⟨he, hw.trans (h.mono hw.size)⟩

set_option maxRecDepth 20000 in
set_option maxHeartbeats 1600000 in
theorem iAre (w : World) (B : Nat) (A : Option Addr) (n c : Nat) (its : List It) (hi : Items w B A n its) (hB : B ≤ w.heap.size) (b : Bool) (hb : b = true ↔ AreP (its.map It.dat)) :
    Calls Try.prog 69 #[.slice A n c] w fun e w' => e = .returned (.bool b) ∧ Below w.heap.size w w' := by
  by_cases hn : n ≤ 16
  case neg =>
    obtain rfl : b = false := by
      cases b
      · rfl
      · have := (hb.1 rfl).2.2
        rw [List.length_map, hi.1] at this
        exact absurd this hn
    clear hi hb
    have hgt : (16 : Int) < (n : Int) := by omega
    go_enter Try.func69, Try.ntmps69
    go_wp2
    go_ret
    exact ⟨rfl, Below.refl _ _⟩
  have HX := Lib.hid hi
  have HBo := Lib.hid hb
  clear hi hb
  have hle16 : ¬ ((16 : Int) < (n : Int)) := by omega
  go_enter Try.func69, Try.ntmps69
  go_wp2
  clear hle16
  go_loopw [10] (fun i wr => ∃ k : Nat, k ≤ n ∧ i = .int .i64 k ∧ (∀ t ∈ its.take k, IsP t.dat) ∧ Rise ((its.map It.dat).map (·.1)) k ∧ Below w.heap.size w wr) (fun i _ => n - (intOf i).toNat)
  case atStart => exact ⟨0, Nat.zero_le _, rfl, by simp, Rise.zero _, Below.refl _ _⟩
  case round =>
    obtain ⟨k, hk, rfl, hall, hrise, hbel⟩ := hrel
    have HA := Lib.hid hall
    have HR := Lib.hid hrise
    have HB := Lib.hid hbel
    clear hall hrise
    by_cases hlt : k < n
    · obtain ⟨b1, off, t, hA1, hb1, hat, hc1, hd1, hx⟩ := HX.out.at k hlt
      have f1 := (hbel.cell (p := ⟨b1, off + k * 2, none⟩) (by exact Nat.lt_of_lt_of_le hb1 hB)).trans hc1
      have f2 := (hbel.cell (p := ⟨b1, off + k * 2 + 1, none⟩) (by exact Nat.lt_of_lt_of_le hb1 hB)).trans hd1
      have HI0 := Lib.hid hx
      have HAt := Lib.hid hat
      have hsz0 := Lib.hid hbel.size
      have hlt' : (k : Int) < (n : Int) := by omega
      obtain ⟨q, hq⟩ := bool_of (IsP t.dat)
      have HQ := Lib.hid hq
      clear hc1 hd1 hx hat hq
      cases q
      · have HF : Hid (b = false) := by
          show _ = _
          cases b
          · rfl
          · exact absurd ((HBo.out.1 rfl).1 _ (dat_mem HAt.out)) (fun h => by have := HQ.out.2 h; cases this)
        subst hA1
        clear hbel
        go_wp2
        generalize hW : World.alloc wr _ = wg
        obtain ⟨g, hgw⟩ : ∃ g, g = wr.heap.size := ⟨_, rfl⟩
        rw [← hgw]
        have HBg : Hid (Below w.heap.size w wg) := Lib.hid (by subst hW; exact HB.out.alloc hsz0.out _)
        have hrow : wg.heap[g]? = some (.cells #[.int .i64 t.id, .slice t.A t.n t.c] 58 (0, 0)) := by subst hW hgw; exact heap_alloc_new wr _
        have hg : g < wg.heap.size := lt_of_block hrow
        have hsz : Hid (w.heap.size ≤ wg.heap.size) := Lib.hid HBg.out.size
        have HI := Lib.hid (HI0.out.below (HBg.out.mono hB))
        have e0 : wg.cell? ⟨g, 0, none⟩ = some (.int .i64 t.id) := cell_of_row wg _ 0 _ _ (0, 0) hrow
        have e1 : wg.cell? ⟨g, 1, none⟩ = some (.slice t.A t.n t.c) := cell_of_row wg _ 1 _ _ (0, 0) hrow
        clear hW hgw hrow
        have hs0 : Below wg.heap.size wg wg.drew ∧ wg.drew.cell? ⟨g, 0, none⟩ = some (.int .i64 t.id) ∧ wg.drew.cell? ⟨g, 1, none⟩ = some (.slice t.A t.n t.c) := ⟨(Below.refl _ _).drew, e0, e1⟩
        refine wp_region_held (S := fun w' => Below wg.heap.size wg w' ∧ w'.cell? ⟨g, 0, none⟩ = some (.int .i64 t.id) ∧ w'.cell? ⟨g, 1, none⟩ = some (.slice t.A t.n t.c)) (by kernel_rfl) ?_
        change wpAnyH _ _ _ _ _ _ _ _ (World.drew _)
        refine takeY 15 (i := 0) (v := ?v0a) rfl rfl (by kernel_rfl) (by kernel_rfl) (by kernel_rfl) (fun _ _ _ h => h) (by kernel_rfl) ?y0a hs0 ?_
        case y0a =>
          intro w' hw'; (try dsimp only at hw'); obtain ⟨x0, x1, x2⟩ := hw'; go_simp; try with_reducible rfl
        simp only [Act.put, List.setIfInBounds_toArray, List.set_cons_zero, List.set_cons_succ]
        refine wpAnyH_ready (rs := [1]) (by kernel_rfl) (by simp) ?_
        refine AllReadyH.cons rfl (fun K hK => ?_) AllReadyH.nil
        go_simp; go_at_call 89; refine (iIsItem_in wg _ B t HI.out (Nat.le_trans hB hsz.out) (Below.refl _ _).drew false HQ.out).mono ?_; rintro e w3 ⟨rfl, hb3⟩
        refine hK.out _ _ ⟨hb3, (hb3.cell (p := ⟨g, 0, none⟩) hg).trans e0, (hb3.cell (p := ⟨g, 1, none⟩) hg).trans e1⟩ (fun hS1 => ?_)
        clear hK K
        try simp only [Act.put, List.setIfInBounds_toArray, List.set_cons_zero, List.set_cons_succ]
        refine takeY 17 (i := 2) (v := ?v2a) rfl rfl (by kernel_rfl) (by kernel_rfl) (by kernel_rfl) (fun _ _ _ h => h) (by kernel_rfl) ?y2a hS1 ?_
        case y2a =>
          intro w' hw'; (try dsimp only at hw'); obtain ⟨x0, x1, x2⟩ := hw'; go_simp; try with_reducible rfl
        simp only [Act.put, List.setIfInBounds_toArray, List.set_cons_zero, List.set_cons_succ]
        refine takeY 18 (i := 3) (v := ?v3a) rfl rfl (by kernel_rfl) (by kernel_rfl) (by kernel_rfl) (fun _ _ _ h => h) (by kernel_rfl) ?y3a hS1 ?_
        case y3a =>
          intro w' hw'; (try dsimp only at hw'); obtain ⟨x0, x1, x2⟩ := hw'; go_simp; try with_reducible rfl
        simp only [Act.put, List.setIfInBounds_toArray, List.set_cons_zero, List.set_cons_succ]
        refine takeU 19 (i := 4) rfl rfl (by kernel_rfl) (by kernel_rfl) (by kernel_rfl) (fun _ _ _ h => h) (by kernel_rfl) hS1 ?_
        simp only [Act.put, List.setIfInBounds_toArray, List.set_cons_zero, List.set_cons_succ]
        refine takeU 20 (i := 5) rfl rfl (by kernel_rfl) (by kernel_rfl) (by kernel_rfl) (fun _ _ _ h => h) (by kernel_rfl) hS1 ?_
        simp only [Act.put, List.setIfInBounds_toArray, List.set_cons_zero, List.set_cons_succ]
        refine takeU 21 (i := 6) rfl rfl (by kernel_rfl) (by kernel_rfl) (by kernel_rfl) (fun _ _ _ h => h) (by kernel_rfl) hS1 ?_
        simp only [Act.put, List.setIfInBounds_toArray, List.set_cons_zero, List.set_cons_succ]
        refine takeU 22 (i := 7) rfl rfl (by kernel_rfl) (by kernel_rfl) (by kernel_rfl) (fun _ _ _ h => h) (by kernel_rfl) hS1 ?_
        simp only [Act.put, List.setIfInBounds_toArray, List.set_cons_zero, List.set_cons_succ]
        refine takeU 23 (i := 8) rfl rfl (by kernel_rfl) (by kernel_rfl) (by kernel_rfl) (fun _ _ _ h => h) (by kernel_rfl) hS1 ?_
        simp only [Act.put, List.setIfInBounds_toArray, List.set_cons_zero, List.set_cons_succ]
        refine takeU 24 (i := 9) rfl rfl (by kernel_rfl) (by kernel_rfl) (by kernel_rfl) (fun _ _ _ h => h) (by kernel_rfl) hS1 ?_
        simp only [Act.put, List.setIfInBounds_toArray, List.set_cons_zero, List.set_cons_succ]
        refine takeU 25 (i := 10) rfl rfl (by kernel_rfl) (by kernel_rfl) (by kernel_rfl) (fun _ _ _ h => h) (by kernel_rfl) hS1 ?_
        simp only [Act.put, List.setIfInBounds_toArray, List.set_cons_zero, List.set_cons_succ]
        refine takeU 26 (i := 11) rfl rfl (by kernel_rfl) (by kernel_rfl) (by kernel_rfl) (fun _ _ _ h => h) (by kernel_rfl) hS1 ?_
        simp only [Act.put, List.setIfInBounds_toArray, List.set_cons_zero, List.set_cons_succ]
        refine takeU 27 (i := 12) rfl rfl (by kernel_rfl) (by kernel_rfl) (by kernel_rfl) (fun _ _ _ h => h) (by kernel_rfl) hS1 ?_
        simp only [Act.put, List.setIfInBounds_toArray, List.set_cons_zero, List.set_cons_succ]
        refine takeU 28 (i := 13) rfl rfl (by kernel_rfl) (by kernel_rfl) (by kernel_rfl) (fun _ _ _ h => h) (by kernel_rfl) hS1 ?_
        simp only [Act.put, List.setIfInBounds_toArray, List.set_cons_zero, List.set_cons_succ]
        refine takeU 29 (i := 14) rfl rfl (by kernel_rfl) (by kernel_rfl) (by kernel_rfl) (fun _ _ _ h => h) (by kernel_rfl) hS1 ?_
        simp only [Act.put, List.setIfInBounds_toArray, List.set_cons_zero, List.set_cons_succ]
        refine takeU 30 (i := 15) rfl rfl (by kernel_rfl) (by kernel_rfl) (by kernel_rfl) (fun _ _ _ h => h) (by kernel_rfl) hS1 ?_
        simp only [Act.put, List.setIfInBounds_toArray, List.set_cons_zero, List.set_cons_succ]
        refine takeU 31 (i := 16) rfl rfl (by kernel_rfl) (by kernel_rfl) (by kernel_rfl) (fun _ _ _ h => h) (by kernel_rfl) hS1 ?_
        simp only [Act.put, List.setIfInBounds_toArray, List.set_cons_zero, List.set_cons_succ]
        refine takeY 32 (i := 17) (v := ?v17a) rfl rfl (by kernel_rfl) (by kernel_rfl) (by kernel_rfl) (fun _ _ _ h => h) (by kernel_rfl) ?y17a hS1 ?_
        case y17a =>
          intro w' hw'; (try dsimp only at hw'); obtain ⟨x0, x1, x2⟩ := hw'; go_simp; try with_reducible rfl
        simp only [Act.put, List.setIfInBounds_toArray, List.set_cons_zero, List.set_cons_succ]
        refine wpAnyH_done (by kernel_rfl) ?_ _
        go_wp2
        go_ret
        exact ⟨HF.out.symm ▸ rfl, HBg.out.trans (hb3.mono hsz.out)⟩
      · have HD := Lib.hid (HQ.out.1 rfl)
        rcases Nat.eq_zero_or_pos k with h0 | h0
        · have HK := Lib.hid h0
          subst hA1
          clear hbel h0
          go_wp2
          generalize hW : World.alloc wr _ = wg
          obtain ⟨g, hgw⟩ : ∃ g, g = wr.heap.size := ⟨_, rfl⟩
          rw [← hgw]
          have HBg : Hid (Below w.heap.size w wg) := Lib.hid (by subst hW; exact HB.out.alloc hsz0.out _)
          have hrow : wg.heap[g]? = some (.cells #[.int .i64 t.id, .slice t.A t.n t.c] 58 (0, 0)) := by subst hW hgw; exact heap_alloc_new wr _
          have hg : g < wg.heap.size := lt_of_block hrow
          have hsz : Hid (w.heap.size ≤ wg.heap.size) := Lib.hid HBg.out.size
          have HI := Lib.hid (HI0.out.below (HBg.out.mono hB))
          have e0 : wg.cell? ⟨g, 0, none⟩ = some (.int .i64 t.id) := cell_of_row wg _ 0 _ _ (0, 0) hrow
          have e1 : wg.cell? ⟨g, 1, none⟩ = some (.slice t.A t.n t.c) := cell_of_row wg _ 1 _ _ (0, 0) hrow
          clear hW hgw hrow
          have hk0 : decide (0 < k) = false := decide_eq_false (by have := HK.out; omega)
          have hs0 : Below wg.heap.size wg wg.drew ∧ wg.drew.cell? ⟨g, 0, none⟩ = some (.int .i64 t.id) ∧ wg.drew.cell? ⟨g, 1, none⟩ = some (.slice t.A t.n t.c) := ⟨(Below.refl _ _).drew, e0, e1⟩
          refine wp_region_held (S := fun w' => Below wg.heap.size wg w' ∧ w'.cell? ⟨g, 0, none⟩ = some (.int .i64 t.id) ∧ w'.cell? ⟨g, 1, none⟩ = some (.slice t.A t.n t.c)) (by kernel_rfl) ?_
          change wpAnyH _ _ _ _ _ _ _ _ (World.drew _)
          refine takeY 15 (i := 0) (v := ?v0b) rfl rfl (by kernel_rfl) (by kernel_rfl) (by kernel_rfl) (fun _ _ _ h => h) (by kernel_rfl) ?y0b hs0 ?_
          case y0b =>
            intro w' hw'; (try dsimp only at hw'); obtain ⟨x0, x1, x2⟩ := hw'; go_simp; try with_reducible rfl
          simp only [Act.put, List.setIfInBounds_toArray, List.set_cons_zero, List.set_cons_succ]
          refine wpAnyH_ready (rs := [1]) (by kernel_rfl) (by simp) ?_
          refine AllReadyH.cons rfl (fun K hK => ?_) AllReadyH.nil
          go_simp; go_at_call 89; refine (iIsItem_in wg _ B t HI.out (Nat.le_trans hB hsz.out) (Below.refl _ _).drew true ⟨fun _ => HD.out, fun _ => rfl⟩).mono ?_; rintro e w3 ⟨rfl, hb3⟩
          refine hK.out _ _ ⟨hb3, (hb3.cell (p := ⟨g, 0, none⟩) hg).trans e0, (hb3.cell (p := ⟨g, 1, none⟩) hg).trans e1⟩ (fun hS1 => ?_)
          clear hK K
          try simp only [Act.put, List.setIfInBounds_toArray, List.set_cons_zero, List.set_cons_succ]
          refine takeY 17 (i := 2) (v := ?v2b) rfl rfl (by kernel_rfl) (by kernel_rfl) (by kernel_rfl) (fun _ _ _ h => h) (by kernel_rfl) ?y2b hS1 ?_
          case y2b =>
            intro w' hw'; (try dsimp only at hw'); obtain ⟨x0, x1, x2⟩ := hw'; go_simp; try with_reducible rfl
          simp only [Act.put, List.setIfInBounds_toArray, List.set_cons_zero, List.set_cons_succ]
          refine takeY 18 (i := 3) (v := ?v3b) rfl rfl (by kernel_rfl) (by kernel_rfl) (by kernel_rfl) (fun _ _ _ h => h) (by kernel_rfl) ?y3b hS1 ?_
          case y3b =>
            intro w' hw'; (try dsimp only at hw'); obtain ⟨x0, x1, x2⟩ := hw'; go_simp; try with_reducible rfl
          simp only [Act.put, List.setIfInBounds_toArray, List.set_cons_zero, List.set_cons_succ]
          refine takeY 19 (i := 4) (v := ?v4b) rfl rfl (by kernel_rfl) (by kernel_rfl) (by kernel_rfl) (fun _ _ _ h => h) (by kernel_rfl) ?y4b hS1 ?_
          case y4b =>
            intro w' hw'; (try dsimp only at hw'); obtain ⟨x0, x1, x2⟩ := hw'; go_simp; try with_reducible rfl
          simp only [Act.put, List.setIfInBounds_toArray, List.set_cons_zero, List.set_cons_succ]
          refine takeY 20 (i := 5) (v := ?v5b) rfl rfl (by kernel_rfl) (by kernel_rfl) (by kernel_rfl) (fun _ _ _ h => h) (by kernel_rfl) ?y5b hS1 ?_
          case y5b =>
            intro w' hw'; (try dsimp only at hw'); obtain ⟨x0, x1, x2⟩ := hw'; go_simp; try with_reducible rfl
          simp only [Act.put, List.setIfInBounds_toArray, List.set_cons_zero, List.set_cons_succ]
          refine takeY 21 (i := 6) (v := ?v6b) rfl rfl (by kernel_rfl) (by kernel_rfl) (by kernel_rfl) (fun _ _ _ h => h) (by kernel_rfl) ?y6b hS1 ?_
          case y6b =>
            intro w' hw'; (try dsimp only at hw'); obtain ⟨x0, x1, x2⟩ := hw'; go_simp; try with_reducible rfl
          simp only [Act.put, List.setIfInBounds_toArray, List.set_cons_zero, List.set_cons_succ]
          refine takeU 22 (i := 7) rfl rfl (by kernel_rfl) (by kernel_rfl) (by kernel_rfl) (fun _ _ _ h => h) (by kernel_rfl) hS1 ?_
          simp only [Act.put, List.setIfInBounds_toArray, List.set_cons_zero, List.set_cons_succ]
          refine takeU 23 (i := 8) rfl rfl (by kernel_rfl) (by kernel_rfl) (by kernel_rfl) (fun _ _ _ h => h) (by kernel_rfl) hS1 ?_
          simp only [Act.put, List.setIfInBounds_toArray, List.set_cons_zero, List.set_cons_succ]
          refine takeU 24 (i := 9) rfl rfl (by kernel_rfl) (by kernel_rfl) (by kernel_rfl) (fun _ _ _ h => h) (by kernel_rfl) hS1 ?_
          simp only [Act.put, List.setIfInBounds_toArray, List.set_cons_zero, List.set_cons_succ]
          refine takeU 25 (i := 10) rfl rfl (by kernel_rfl) (by kernel_rfl) (by kernel_rfl) (fun _ _ _ h => h) (by kernel_rfl) hS1 ?_
          simp only [Act.put, List.setIfInBounds_toArray, List.set_cons_zero, List.set_cons_succ]
          refine takeU 26 (i := 11) rfl rfl (by kernel_rfl) (by kernel_rfl) (by kernel_rfl) (fun _ _ _ h => h) (by kernel_rfl) hS1 ?_
          simp only [Act.put, List.setIfInBounds_toArray, List.set_cons_zero, List.set_cons_succ]
          refine takeU 27 (i := 12) rfl rfl (by kernel_rfl) (by kernel_rfl) (by kernel_rfl) (fun _ _ _ h => h) (by kernel_rfl) hS1 ?_
          simp only [Act.put, List.setIfInBounds_toArray, List.set_cons_zero, List.set_cons_succ]
          refine takeU 28 (i := 13) rfl rfl (by kernel_rfl) (by kernel_rfl) (by kernel_rfl) (fun _ _ _ h => h) (by kernel_rfl) hS1 ?_
          simp only [Act.put, List.setIfInBounds_toArray, List.set_cons_zero, List.set_cons_succ]
          refine takeU 29 (i := 14) rfl rfl (by kernel_rfl) (by kernel_rfl) (by kernel_rfl) (fun _ _ _ h => h) (by kernel_rfl) hS1 ?_
          simp only [Act.put, List.setIfInBounds_toArray, List.set_cons_zero, List.set_cons_succ]
          refine takeU 30 (i := 15) rfl rfl (by kernel_rfl) (by kernel_rfl) (by kernel_rfl) (fun _ _ _ h => h) (by kernel_rfl) hS1 ?_
          simp only [Act.put, List.setIfInBounds_toArray, List.set_cons_zero, List.set_cons_succ]
          refine takeY 31 (i := 16) (v := ?v16b) rfl rfl (by kernel_rfl) (by kernel_rfl) (by kernel_rfl) (fun _ _ _ h => h) (by kernel_rfl) ?y16b hS1 ?_
          case y16b =>
            intro w' hw'; (try dsimp only at hw'); obtain ⟨x0, x1, x2⟩ := hw'; go_simp; try with_reducible rfl
          simp only [Act.put, List.setIfInBounds_toArray, List.set_cons_zero, List.set_cons_succ]
          refine takeY 32 (i := 17) (v := ?v17b) rfl rfl (by kernel_rfl) (by kernel_rfl) (by kernel_rfl) (fun _ _ _ h => h) (by kernel_rfl) ?y17b hS1 ?_
          case y17b =>
            intro w' hw'; (try dsimp only at hw'); obtain ⟨x0, x1, x2⟩ := hw'; go_simp; try with_reducible rfl
          simp only [Act.put, List.setIfInBounds_toArray, List.set_cons_zero, List.set_cons_succ]
          refine wpAnyH_done (by kernel_rfl) ?_ _
          clear hk0
          go_wp2
          go_roundw
          case rel => exact ⟨k + 1, by omega, by go_num, all_step HAt.out HA.out HD.out, HR.out.step (fun h0 => absurd h0 (by have := HK.out; omega)), HBg.out.trans (hb3.mono hsz.out)⟩
          case measure => simp [intOf]; omega
        · obtain ⟨j, hj⟩ : ∃ j, j + 1 = k := ⟨k - 1, by omega⟩
          obtain ⟨b2, off2, t0, hA2, hb2, hat2, hc2, _, _⟩ := HX.out.at j (by omega)
          obtain ⟨rfl, rfl⟩ : b1 = b2 ∧ off = off2 := by rw [hA1] at hA2; injection hA2 with h; injection h with h1 h2; exact ⟨h1, h2⟩
          have F3 := Lib.hid hc2
          have HAt0 := Lib.hid hat2
          have HJ := Lib.hid hj
          have HK0 : Hid ((0 : Int) < (k : Int)) := by show _ < _; omega
          have hkj : (k : Int) - 1 = (j : Int) := by omega
          have hkw : IntKind.i64.wrap ((k : Int) - 1) = (j : Int) := by rw [hkj]; exact IntWalk.i64_in _ ⟨by omega, by omega⟩
          have hjw : IntKind.i64.wrap (j : Int) = (j : Int) := IntWalk.i64_in _ ⟨by omega, by omega⟩
          have hjn : (j : Int) < (n : Int) := by omega
          have hjn' : j < n := by omega
          subst hA1
          clear hbel h0 hj hc2 hat2 hA2
          have HLt : Hid (((its.map It.dat).map (·.1)).getD (k - 1) 0 = t0.id ∧ ((its.map It.dat).map (·.1)).getD k 0 = t.id) := by
            refine ⟨?_, id_at HAt.out⟩
            rw [show k - 1 = j by have := HJ.out; omega]
            exact id_at HAt0.out
          by_cases hle : t.id ≤ t0.id
          · have HF : Hid (b = false) := by
              show _ = _
              cases b
              · rfl
              · have hr := (HBo.out.1 rfl).2.1 k (by omega) (by rw [List.length_map, HX.out.1]; exact hlt)
                rw [HLt.out.1, HLt.out.2] at hr
                omega
            go_wp2
            generalize hW : World.alloc wr _ = wg
            obtain ⟨g, hgw⟩ : ∃ g, g = wr.heap.size := ⟨_, rfl⟩
            rw [← hgw]
            have HBg : Hid (Below w.heap.size w wg) := Lib.hid (by subst hW; exact HB.out.alloc hsz0.out _)
            have hrow : wg.heap[g]? = some (.cells #[.int .i64 t.id, .slice t.A t.n t.c] 58 (0, 0)) := by subst hW hgw; exact heap_alloc_new wr _
            have hg : g < wg.heap.size := lt_of_block hrow
            have hsz : Hid (w.heap.size ≤ wg.heap.size) := Lib.hid HBg.out.size
            have HI := Lib.hid (HI0.out.below (HBg.out.mono hB))
            have e0 : wg.cell? ⟨g, 0, none⟩ = some (.int .i64 t.id) := cell_of_row wg _ 0 _ _ (0, 0) hrow
            have e1 : wg.cell? ⟨g, 1, none⟩ = some (.slice t.A t.n t.c) := cell_of_row wg _ 1 _ _ (0, 0) hrow
            have hb1g : b1 < wg.heap.size := by have := hsz.out; omega
            have f3 : wg.cell? ⟨b1, off + j * 2, none⟩ = some (.int .i64 t0.id) := by
              have h := F3.out
              exact (HBg.out.cell (p := ⟨b1, off + j * 2, none⟩) (by exact Nat.lt_of_lt_of_le hb1 hB)).trans h
            clear hW hgw hrow
            have hk0 : decide (0 < k) = true := decide_eq_true (by have := HK0.out; omega)
            have hs0 : Below wg.heap.size wg wg.drew ∧ wg.drew.cell? ⟨g, 0, none⟩ = some (.int .i64 t.id) ∧ wg.drew.cell? ⟨g, 1, none⟩ = some (.slice t.A t.n t.c) ∧ wg.drew.cell? ⟨b1, off + j * 2, none⟩ = some (.int .i64 t0.id) := ⟨(Below.refl _ _).drew, e0, e1, f3⟩
            refine wp_region_held (S := fun w' => Below wg.heap.size wg w' ∧ w'.cell? ⟨g, 0, none⟩ = some (.int .i64 t.id) ∧ w'.cell? ⟨g, 1, none⟩ = some (.slice t.A t.n t.c) ∧ w'.cell? ⟨b1, off + j * 2, none⟩ = some (.int .i64 t0.id)) (by kernel_rfl) ?_
            change wpAnyH _ _ _ _ _ _ _ _ (World.drew _)
            refine takeY 15 (i := 0) (v := ?v0c) rfl rfl (by kernel_rfl) (by kernel_rfl) (by kernel_rfl) (fun _ _ _ h => h) (by kernel_rfl) ?y0c hs0 ?_
            case y0c =>
              intro w' hw'; (try dsimp only at hw'); obtain ⟨x0, x1, x2, x3⟩ := hw'; go_simp; try with_reducible rfl
            simp only [Act.put, List.setIfInBounds_toArray, List.set_cons_zero, List.set_cons_succ]
            refine wpAnyH_ready (rs := [1]) (by kernel_rfl) (by simp) ?_
            refine AllReadyH.cons rfl (fun K hK => ?_) AllReadyH.nil
            go_simp; go_at_call 89; refine (iIsItem_in wg _ B t HI.out (Nat.le_trans hB hsz.out) (Below.refl _ _).drew true ⟨fun _ => HD.out, fun _ => rfl⟩).mono ?_; rintro e w3 ⟨rfl, hb3⟩
            refine hK.out _ _ ⟨hb3, (hb3.cell (p := ⟨g, 0, none⟩) hg).trans e0, (hb3.cell (p := ⟨g, 1, none⟩) hg).trans e1, (hb3.cell (p := ⟨b1, off + j * 2, none⟩) hb1g).trans f3⟩ (fun hS1 => ?_)
            clear hK K
            try simp only [Act.put, List.setIfInBounds_toArray, List.set_cons_zero, List.set_cons_succ]
            refine takeY 17 (i := 2) (v := ?v2c) rfl rfl (by kernel_rfl) (by kernel_rfl) (by kernel_rfl) (fun _ _ _ h => h) (by kernel_rfl) ?y2c hS1 ?_
            case y2c =>
              intro w' hw'; (try dsimp only at hw'); obtain ⟨x0, x1, x2, x3⟩ := hw'; go_simp; try with_reducible rfl
            simp only [Act.put, List.setIfInBounds_toArray, List.set_cons_zero, List.set_cons_succ]
            refine takeY 18 (i := 3) (v := ?v3c) rfl rfl (by kernel_rfl) (by kernel_rfl) (by kernel_rfl) (fun _ _ _ h => h) (by kernel_rfl) ?y3c hS1 ?_
            case y3c =>
              intro w' hw'; (try dsimp only at hw'); obtain ⟨x0, x1, x2, x3⟩ := hw'; go_simp; try with_reducible rfl
            simp only [Act.put, List.setIfInBounds_toArray, List.set_cons_zero, List.set_cons_succ]
            refine takeY 19 (i := 4) (v := ?v4c) rfl rfl (by kernel_rfl) (by kernel_rfl) (by kernel_rfl) (fun _ _ _ h => h) (by kernel_rfl) ?y4c hS1 ?_
            case y4c =>
              intro w' hw'; (try dsimp only at hw'); obtain ⟨x0, x1, x2, x3⟩ := hw'; go_simp; try with_reducible rfl
            simp only [Act.put, List.setIfInBounds_toArray, List.set_cons_zero, List.set_cons_succ]
            refine takeY 20 (i := 5) (v := ?v5c) rfl rfl (by kernel_rfl) (by kernel_rfl) (by kernel_rfl) (fun _ _ _ h => h) (by kernel_rfl) ?y5c hS1 ?_
            case y5c =>
              intro w' hw'; (try dsimp only at hw'); obtain ⟨x0, x1, x2, x3⟩ := hw'; go_simp; try with_reducible rfl
            simp only [Act.put, List.setIfInBounds_toArray, List.set_cons_zero, List.set_cons_succ]
            refine takeY 21 (i := 6) (v := ?v6c) rfl rfl (by kernel_rfl) (by kernel_rfl) (by kernel_rfl) (fun _ _ _ h => h) (by kernel_rfl) ?y6c hS1 ?_
            case y6c =>
              intro w' hw'; (try dsimp only at hw'); obtain ⟨x0, x1, x2, x3⟩ := hw'; go_simp; try with_reducible rfl
            simp only [Act.put, List.setIfInBounds_toArray, List.set_cons_zero, List.set_cons_succ]
            refine takeY 22 (i := 7) (v := ?v7c) rfl rfl (by kernel_rfl) (by kernel_rfl) (by kernel_rfl) (fun _ _ _ h => h) (by kernel_rfl) ?y7c hS1 ?_
            case y7c =>
              intro w' hw'; (try dsimp only at hw'); obtain ⟨x0, x1, x2, x3⟩ := hw'; go_simp; try with_reducible rfl
            simp only [Act.put, List.setIfInBounds_toArray, List.set_cons_zero, List.set_cons_succ]
            refine takeY 23 (i := 8) (v := ?v8c) rfl rfl (by kernel_rfl) (by kernel_rfl) (by kernel_rfl) (fun _ _ _ h => h) (by kernel_rfl) ?y8c hS1 ?_
            case y8c =>
              intro w' hw'; (try dsimp only at hw'); obtain ⟨x0, x1, x2, x3⟩ := hw'; go_simp; try with_reducible rfl
            simp only [Act.put, List.setIfInBounds_toArray, List.set_cons_zero, List.set_cons_succ]
            refine takeY 24 (i := 9) (v := ?v9c) rfl rfl (by kernel_rfl) (by kernel_rfl) (by kernel_rfl) (fun _ _ _ h => h) (by kernel_rfl) ?y9c hS1 ?_
            case y9c =>
              intro w' hw'; (try dsimp only at hw'); obtain ⟨x0, x1, x2, x3⟩ := hw'; go_simp; try with_reducible rfl
            simp only [Act.put, List.setIfInBounds_toArray, List.set_cons_zero, List.set_cons_succ]
            refine takeY 25 (i := 10) (v := ?v10c) rfl rfl (by kernel_rfl) (by kernel_rfl) (by kernel_rfl) (fun _ _ _ h => h) (by kernel_rfl) ?y10c hS1 ?_
            case y10c =>
              intro w' hw'; (try dsimp only at hw'); obtain ⟨x0, x1, x2, x3⟩ := hw'; go_simp; try with_reducible rfl
            simp only [Act.put, List.setIfInBounds_toArray, List.set_cons_zero, List.set_cons_succ]
            refine takeY 26 (i := 11) (v := ?v11c) rfl rfl (by kernel_rfl) (by kernel_rfl) (by kernel_rfl) (fun _ _ _ h => h) (by kernel_rfl) ?y11c hS1 ?_
            case y11c =>
              intro w' hw'; (try dsimp only at hw'); obtain ⟨x0, x1, x2, x3⟩ := hw'; go_simp; try with_reducible rfl
            simp only [Act.put, List.setIfInBounds_toArray, List.set_cons_zero, List.set_cons_succ]
            refine takeY 27 (i := 12) (v := ?v12c) rfl rfl (by kernel_rfl) (by kernel_rfl) (by kernel_rfl) (fun _ _ _ h => h) (by kernel_rfl) ?y12c hS1 ?_
            case y12c =>
              intro w' hw'; (try dsimp only at hw'); obtain ⟨x0, x1, x2, x3⟩ := hw'; go_simp; try with_reducible rfl
            simp only [Act.put, List.setIfInBounds_toArray, List.set_cons_zero, List.set_cons_succ]
            refine takeY 28 (i := 13) (v := ?v13c) rfl rfl (by kernel_rfl) (by kernel_rfl) (by kernel_rfl) (fun _ _ _ h => h) (by kernel_rfl) ?y13c hS1 ?_
            case y13c =>
              intro w' hw'; (try dsimp only at hw'); obtain ⟨x0, x1, x2, x3⟩ := hw'; go_simp; try with_reducible rfl
            simp only [Act.put, List.setIfInBounds_toArray, List.set_cons_zero, List.set_cons_succ]
            refine takeY 29 (i := 14) (v := ?v14c) rfl rfl (by kernel_rfl) (by kernel_rfl) (by kernel_rfl) (fun _ _ _ h => h) (by kernel_rfl) ?y14c hS1 ?_
            case y14c =>
              intro w' hw'; (try dsimp only at hw'); obtain ⟨x0, x1, x2, x3⟩ := hw'; go_simp; try with_reducible rfl
            simp only [Act.put, List.setIfInBounds_toArray, List.set_cons_zero, List.set_cons_succ]
            refine takeY 30 (i := 15) (v := ?v15c) rfl rfl (by kernel_rfl) (by kernel_rfl) (by kernel_rfl) (fun _ _ _ h => h) (by kernel_rfl) ?y15c hS1 ?_
            case y15c =>
              intro w' hw'; (try dsimp only at hw'); obtain ⟨x0, x1, x2, x3⟩ := hw'; go_simp; try with_reducible rfl
            simp only [Act.put, List.setIfInBounds_toArray, List.set_cons_zero, List.set_cons_succ]
            refine takeY 31 (i := 16) (v := ?v16c) rfl rfl (by kernel_rfl) (by kernel_rfl) (by kernel_rfl) (fun _ _ _ h => h) (by kernel_rfl) ?y16c hS1 ?_
            case y16c =>
              intro w' hw'; (try dsimp only at hw'); obtain ⟨x0, x1, x2, x3⟩ := hw'; go_simp; try with_reducible rfl
            simp only [Act.put, List.setIfInBounds_toArray, List.set_cons_zero, List.set_cons_succ]
            refine takeY 32 (i := 17) (v := ?v17c) rfl rfl (by kernel_rfl) (by kernel_rfl) (by kernel_rfl) (fun _ _ _ h => h) (by kernel_rfl) ?y17c hS1 ?_
            case y17c =>
              intro w' hw'; (try dsimp only at hw'); obtain ⟨x0, x1, x2, x3⟩ := hw'; go_simp; try with_reducible rfl
            simp only [Act.put, List.setIfInBounds_toArray, List.set_cons_zero, List.set_cons_succ]
            refine wpAnyH_done (by kernel_rfl) ?_ _
            clear hk0
            go_wp2
            go_ret
            exact ⟨HF.out.symm ▸ rfl, HBg.out.trans (hb3.mono hsz.out)⟩
          · go_wp2
            generalize hW : World.alloc wr _ = wg
            obtain ⟨g, hgw⟩ : ∃ g, g = wr.heap.size := ⟨_, rfl⟩
            rw [← hgw]
            have HBg : Hid (Below w.heap.size w wg) := Lib.hid (by subst hW; exact HB.out.alloc hsz0.out _)
            have hrow : wg.heap[g]? = some (.cells #[.int .i64 t.id, .slice t.A t.n t.c] 58 (0, 0)) := by subst hW hgw; exact heap_alloc_new wr _
            have hg : g < wg.heap.size := lt_of_block hrow
            have hsz : Hid (w.heap.size ≤ wg.heap.size) := Lib.hid HBg.out.size
            have HI := Lib.hid (HI0.out.below (HBg.out.mono hB))
            have e0 : wg.cell? ⟨g, 0, none⟩ = some (.int .i64 t.id) := cell_of_row wg _ 0 _ _ (0, 0) hrow
            have e1 : wg.cell? ⟨g, 1, none⟩ = some (.slice t.A t.n t.c) := cell_of_row wg _ 1 _ _ (0, 0) hrow
            have hb1g : b1 < wg.heap.size := by have := hsz.out; omega
            have f3 : wg.cell? ⟨b1, off + j * 2, none⟩ = some (.int .i64 t0.id) := by
              have h := F3.out
              exact (HBg.out.cell (p := ⟨b1, off + j * 2, none⟩) (by exact Nat.lt_of_lt_of_le hb1 hB)).trans h
            clear hW hgw hrow
            have hk0 : decide (0 < k) = true := decide_eq_true (by have := HK0.out; omega)
            have hs0 : Below wg.heap.size wg wg.drew ∧ wg.drew.cell? ⟨g, 0, none⟩ = some (.int .i64 t.id) ∧ wg.drew.cell? ⟨g, 1, none⟩ = some (.slice t.A t.n t.c) ∧ wg.drew.cell? ⟨b1, off + j * 2, none⟩ = some (.int .i64 t0.id) := ⟨(Below.refl _ _).drew, e0, e1, f3⟩
            refine wp_region_held (S := fun w' => Below wg.heap.size wg w' ∧ w'.cell? ⟨g, 0, none⟩ = some (.int .i64 t.id) ∧ w'.cell? ⟨g, 1, none⟩ = some (.slice t.A t.n t.c) ∧ w'.cell? ⟨b1, off + j * 2, none⟩ = some (.int .i64 t0.id)) (by kernel_rfl) ?_
            change wpAnyH _ _ _ _ _ _ _ _ (World.drew _)
            refine takeY 15 (i := 0) (v := ?v0d) rfl rfl (by kernel_rfl) (by kernel_rfl) (by kernel_rfl) (fun _ _ _ h => h) (by kernel_rfl) ?y0d hs0 ?_
            case y0d =>
              intro w' hw'; (try dsimp only at hw'); obtain ⟨x0, x1, x2, x3⟩ := hw'; go_simp; try with_reducible rfl
            simp only [Act.put, List.setIfInBounds_toArray, List.set_cons_zero, List.set_cons_succ]
            refine wpAnyH_ready (rs := [1]) (by kernel_rfl) (by simp) ?_
            refine AllReadyH.cons rfl (fun K hK => ?_) AllReadyH.nil
            go_simp; go_at_call 89; refine (iIsItem_in wg _ B t HI.out (Nat.le_trans hB hsz.out) (Below.refl _ _).drew true ⟨fun _ => HD.out, fun _ => rfl⟩).mono ?_; rintro e w3 ⟨rfl, hb3⟩
            refine hK.out _ _ ⟨hb3, (hb3.cell (p := ⟨g, 0, none⟩) hg).trans e0, (hb3.cell (p := ⟨g, 1, none⟩) hg).trans e1, (hb3.cell (p := ⟨b1, off + j * 2, none⟩) hb1g).trans f3⟩ (fun hS1 => ?_)
            clear hK K
            try simp only [Act.put, List.setIfInBounds_toArray, List.set_cons_zero, List.set_cons_succ]
            refine takeY 17 (i := 2) (v := ?v2d) rfl rfl (by kernel_rfl) (by kernel_rfl) (by kernel_rfl) (fun _ _ _ h => h) (by kernel_rfl) ?y2d hS1 ?_
            case y2d =>
              intro w' hw'; (try dsimp only at hw'); obtain ⟨x0, x1, x2, x3⟩ := hw'; go_simp; try with_reducible rfl
            simp only [Act.put, List.setIfInBounds_toArray, List.set_cons_zero, List.set_cons_succ]
            refine takeY 18 (i := 3) (v := ?v3d) rfl rfl (by kernel_rfl) (by kernel_rfl) (by kernel_rfl) (fun _ _ _ h => h) (by kernel_rfl) ?y3d hS1 ?_
            case y3d =>
              intro w' hw'; (try dsimp only at hw'); obtain ⟨x0, x1, x2, x3⟩ := hw'; go_simp; try with_reducible rfl
            simp only [Act.put, List.setIfInBounds_toArray, List.set_cons_zero, List.set_cons_succ]
            refine takeY 19 (i := 4) (v := ?v4d) rfl rfl (by kernel_rfl) (by kernel_rfl) (by kernel_rfl) (fun _ _ _ h => h) (by kernel_rfl) ?y4d hS1 ?_
            case y4d =>
              intro w' hw'; (try dsimp only at hw'); obtain ⟨x0, x1, x2, x3⟩ := hw'; go_simp; try with_reducible rfl
            simp only [Act.put, List.setIfInBounds_toArray, List.set_cons_zero, List.set_cons_succ]
            refine takeY 20 (i := 5) (v := ?v5d) rfl rfl (by kernel_rfl) (by kernel_rfl) (by kernel_rfl) (fun _ _ _ h => h) (by kernel_rfl) ?y5d hS1 ?_
            case y5d =>
              intro w' hw'; (try dsimp only at hw'); obtain ⟨x0, x1, x2, x3⟩ := hw'; go_simp; try with_reducible rfl
            simp only [Act.put, List.setIfInBounds_toArray, List.set_cons_zero, List.set_cons_succ]
            refine takeY 21 (i := 6) (v := ?v6d) rfl rfl (by kernel_rfl) (by kernel_rfl) (by kernel_rfl) (fun _ _ _ h => h) (by kernel_rfl) ?y6d hS1 ?_
            case y6d =>
              intro w' hw'; (try dsimp only at hw'); obtain ⟨x0, x1, x2, x3⟩ := hw'; go_simp; try with_reducible rfl
            simp only [Act.put, List.setIfInBounds_toArray, List.set_cons_zero, List.set_cons_succ]
            refine takeY 22 (i := 7) (v := ?v7d) rfl rfl (by kernel_rfl) (by kernel_rfl) (by kernel_rfl) (fun _ _ _ h => h) (by kernel_rfl) ?y7d hS1 ?_
            case y7d =>
              intro w' hw'; (try dsimp only at hw'); obtain ⟨x0, x1, x2, x3⟩ := hw'; go_simp; try with_reducible rfl
            simp only [Act.put, List.setIfInBounds_toArray, List.set_cons_zero, List.set_cons_succ]
            refine takeY 23 (i := 8) (v := ?v8d) rfl rfl (by kernel_rfl) (by kernel_rfl) (by kernel_rfl) (fun _ _ _ h => h) (by kernel_rfl) ?y8d hS1 ?_
            case y8d =>
              intro w' hw'; (try dsimp only at hw'); obtain ⟨x0, x1, x2, x3⟩ := hw'; go_simp; try with_reducible rfl
            simp only [Act.put, List.setIfInBounds_toArray, List.set_cons_zero, List.set_cons_succ]
            refine takeY 24 (i := 9) (v := ?v9d) rfl rfl (by kernel_rfl) (by kernel_rfl) (by kernel_rfl) (fun _ _ _ h => h) (by kernel_rfl) ?y9d hS1 ?_
            case y9d =>
              intro w' hw'; (try dsimp only at hw'); obtain ⟨x0, x1, x2, x3⟩ := hw'; go_simp; try with_reducible rfl
            simp only [Act.put, List.setIfInBounds_toArray, List.set_cons_zero, List.set_cons_succ]
            refine takeY 25 (i := 10) (v := ?v10d) rfl rfl (by kernel_rfl) (by kernel_rfl) (by kernel_rfl) (fun _ _ _ h => h) (by kernel_rfl) ?y10d hS1 ?_
            case y10d =>
              intro w' hw'; (try dsimp only at hw'); obtain ⟨x0, x1, x2, x3⟩ := hw'; go_simp; try with_reducible rfl
            simp only [Act.put, List.setIfInBounds_toArray, List.set_cons_zero, List.set_cons_succ]
            refine takeY 26 (i := 11) (v := ?v11d) rfl rfl (by kernel_rfl) (by kernel_rfl) (by kernel_rfl) (fun _ _ _ h => h) (by kernel_rfl) ?y11d hS1 ?_
            case y11d =>
              intro w' hw'; (try dsimp only at hw'); obtain ⟨x0, x1, x2, x3⟩ := hw'; go_simp; try with_reducible rfl
            simp only [Act.put, List.setIfInBounds_toArray, List.set_cons_zero, List.set_cons_succ]
            refine takeY 27 (i := 12) (v := ?v12d) rfl rfl (by kernel_rfl) (by kernel_rfl) (by kernel_rfl) (fun _ _ _ h => h) (by kernel_rfl) ?y12d hS1 ?_
            case y12d =>
              intro w' hw'; (try dsimp only at hw'); obtain ⟨x0, x1, x2, x3⟩ := hw'; go_simp; try with_reducible rfl
            simp only [Act.put, List.setIfInBounds_toArray, List.set_cons_zero, List.set_cons_succ]
            refine takeY 28 (i := 13) (v := ?v13d) rfl rfl (by kernel_rfl) (by kernel_rfl) (by kernel_rfl) (fun _ _ _ h => h) (by kernel_rfl) ?y13d hS1 ?_
            case y13d =>
              intro w' hw'; (try dsimp only at hw'); obtain ⟨x0, x1, x2, x3⟩ := hw'; go_simp; try with_reducible rfl
            simp only [Act.put, List.setIfInBounds_toArray, List.set_cons_zero, List.set_cons_succ]
            refine takeY 29 (i := 14) (v := ?v14d) rfl rfl (by kernel_rfl) (by kernel_rfl) (by kernel_rfl) (fun _ _ _ h => h) (by kernel_rfl) ?y14d hS1 ?_
            case y14d =>
              intro w' hw'; (try dsimp only at hw'); obtain ⟨x0, x1, x2, x3⟩ := hw'; go_simp; try with_reducible rfl
            simp only [Act.put, List.setIfInBounds_toArray, List.set_cons_zero, List.set_cons_succ]
            refine takeY 30 (i := 15) (v := ?v15d) rfl rfl (by kernel_rfl) (by kernel_rfl) (by kernel_rfl) (fun _ _ _ h => h) (by kernel_rfl) ?y15d hS1 ?_
            case y15d =>
              intro w' hw'; (try dsimp only at hw'); obtain ⟨x0, x1, x2, x3⟩ := hw'; go_simp; try with_reducible rfl
            simp only [Act.put, List.setIfInBounds_toArray, List.set_cons_zero, List.set_cons_succ]
            refine takeY 31 (i := 16) (v := ?v16d) rfl rfl (by kernel_rfl) (by kernel_rfl) (by kernel_rfl) (fun _ _ _ h => h) (by kernel_rfl) ?y16d hS1 ?_
            case y16d =>
              intro w' hw'; (try dsimp only at hw'); obtain ⟨x0, x1, x2, x3⟩ := hw'; go_simp; try with_reducible rfl
            simp only [Act.put, List.setIfInBounds_toArray, List.set_cons_zero, List.set_cons_succ]
            refine takeY 32 (i := 17) (v := ?v17d) rfl rfl (by kernel_rfl) (by kernel_rfl) (by kernel_rfl) (fun _ _ _ h => h) (by kernel_rfl) ?y17d hS1 ?_
            case y17d =>
              intro w' hw'; (try dsimp only at hw'); obtain ⟨x0, x1, x2, x3⟩ := hw'; go_simp; try with_reducible rfl
            simp only [Act.put, List.setIfInBounds_toArray, List.set_cons_zero, List.set_cons_succ]
            refine wpAnyH_done (by kernel_rfl) ?_ _
            clear hk0
            go_wp2
            go_roundw
            case rel => exact ⟨k + 1, by omega, by go_num, all_step HAt.out HA.out HD.out, HR.out.step (fun h0 => by rw [HLt.out.1, HLt.out.2]; omega), HBg.out.trans (hb3.mono hsz.out)⟩
            case measure => simp [intOf]; omega
    · obtain rfl : k = n := by omega
      clear hbel
      obtain rfl : b = true := HBo.out.2 (by
        have h1 := HA.out
        rw [take_all HX.out.1] at h1
        refine ⟨fun d hd => by obtain ⟨u, hu, rfl⟩ := List.mem_map.1 hd; exact h1 u hu, ?_, ?_⟩
        · rw [List.length_map, HX.out.1]; exact HR.out
        · rw [List.length_map, HX.out.1]; exact hn)
      go_wp2
      go_ret
      exact ⟨rfl, HB.out⟩
end Go.Proofs.Ytadjoiahllekdaa.num
namespace Go.Proofs.Ytadjoiahllekdaa.num
set_option maxRecDepth 20000
open Go.RowKit
set_option linter.unusedVariables false
set_option linter.unusedSimpArgs false

/-- What comes in: items and nodes. -/
structure InB (w : World) (B : Nat) (A : Option Addr) (n : Nat) (its : List It) (A2 : Option Addr) (n2 c2 : Nat) (ns : List Nd) : Prop where
  i : Items w B A n its
  e : Nodes w B A2 n2 ns
  hB : B ≤ w.heap.size
  hn : n ≤ 1048576
  hn2 : n2 ≤ 1048576
  hnc : n2 ≤ c2
  hc : c2 ≤ 9223372036854775807
  si : ∀ t ∈ its, t.n ≤ 1048576
  se : ShortN ns
theorem InB.below {w w' : World} {B : Nat} {A : Option Addr} {n : Nat} {its : List It} {A2 : Option Addr} {n2 c2 : Nat} {ns : List Nd} (h : InB w B A n its A2 n2 c2 ns) (hb : Below w.heap.size w w') : InB w' B A n its A2 n2 c2 ns :=
  ⟨h.i.below (hb.mono h.hB), h.e.below (hb.mono h.hB), Nat.le_trans h.hB hb.size, h.hn, h.hn2, h.hnc, h.hc, h.si, h.se⟩
theorem Items.mem {w : World} {B : Nat} {A : Option Addr} {n : Nat} {its : List It} (h : Items w B A n its) {t : It} (ht : t ∈ its) : Ints w B t.A t.n t.xs := by
  obtain ⟨k, hk, rfl⟩ := List.getElem_of_mem ht
  exact (h.2 k hk).choose_spec.choose_spec.2.2.2.2

def ctCells (p : Nat) (t : It) : List Value := [.int .i64 t.id, .slice t.A t.n t.c, .pointer (some ⟨p, 0, none⟩)]
def ctV (p : Nat) (t : It) : Value := .agg #[.int .i64 t.id, .slice t.A t.n t.c, .pointer (some ⟨p, 0, none⟩)]
theorem ctCells_len (p : Nat) (t : It) : (ctCells p t).length = 3 := rfl
theorem ctCells_one (p : Nat) (t : It) : ∀ u ∈ ctCells p t, u.oneCell' = true := by simp [ctCells, Value.oneCell']
theorem info_ct : (Try.prog.info? 61).map (fun i => (i.zero, i.size, i.bytes)) = some (some (.agg #[.int .i64 0, .slice none 0 0, .pointer none]), 3, 40) := by kernel_rfl
/-- A box that holds a contestant. -/
def Box3 (w : World) (g p : Nat) (t : It) : Prop := g < w.heap.size ∧ w.cell? ⟨g, 0, none⟩ = some (.int .i64 t.id) ∧ w.cell? ⟨g, 1, none⟩ = some (.slice t.A t.n t.c) ∧ w.cell? ⟨g, 2, none⟩ = some (.pointer (some ⟨p, 0, none⟩))
theorem Box3.below {w w' : World} {g p : Nat} {t : It} (h : Box3 w g p t) (hb : Below w.heap.size w w') : Box3 w' g p t :=
  ⟨Nat.lt_of_lt_of_le h.1 hb.size, (hb.cell (p := ⟨g, 0, none⟩) h.1).trans h.2.1, (hb.cell (p := ⟨g, 1, none⟩) h.1).trans h.2.2.1, (hb.cell (p := ⟨g, 2, none⟩) h.1).trans h.2.2.2⟩
theorem Box3.alloc {w : World} {g p : Nat} {t : It} (h : Box3 w g p t) (o : Obj) : Box3 (w.alloc o) g p t := h.below ((Below.refl _ w).alloc (Nat.le_refl _) _)
theorem Box3.new (w : World) (p : Nat) (t : It) (T : TypeId) : Box3 (w.alloc (.cells #[.int .i64 t.id, .slice t.A t.n t.c, .pointer (some ⟨p, 0, none⟩)] T)) w.heap.size p t :=
  ⟨by simp, World.cell?_alloc_at _ _ _ _ rfl, World.cell?_alloc_at _ _ _ _ rfl, World.cell?_alloc_at _ _ _ _ rfl⟩
/-- A contest: the slice (A, n) holds the items its, valid ones (their values below block B), each with the tree t at block p (its memory from block lo on). -/
structure CtIn (w : World) (B lo p : Nat) (t : Tr) (A : Option Addr) (n : Nat) (its : List It) : Prop where
  r : ReadG (ctCells p) 3 w w.heap.size A n its
  x : ∀ u ∈ its, Ints w B u.A u.n u.xs ∧ IsP u.dat
  t : PartAt w B lo t p
  hB : B ≤ w.heap.size
theorem CtIn.step {w w' : World} {B lo p : Nat} {t : Tr} {A : Option Addr} {n : Nat} {its : List It} (h : CtIn w B lo p t A n its) (hb : Below w.heap.size w w') : CtIn w' B lo p t A n its :=
  ⟨(h.r.below hb).more hb.size, fun u hu => ⟨(h.x u hu).1.below (hb.mono h.hB), (h.x u hu).2⟩, h.t.below h.hB hb, Nat.le_trans h.hB hb.size⟩
theorem ct_at {w : World} {p : Nat} {A : Option Addr} {n : Nat} {its : List It} (h : ReadG (ctCells p) 3 w w.heap.size A n its) (k : Nat) (hk : k < n) :
    ∃ (b off : Nat) (x : It), A = some ⟨b, off, none⟩ ∧ b < w.heap.size ∧ its[k]? = some x ∧ w.cell? ⟨b, off + k * 3, none⟩ = some (.int .i64 x.id) ∧ w.cell? ⟨b, off + k * 3 + 1, none⟩ = some (.slice x.A x.n x.c) ∧ w.cell? ⟨b, off + k * 3 + 2, none⟩ = some (.pointer (some ⟨p, 0, none⟩)) := by
  obtain ⟨x, hx⟩ := h.get hk
  obtain ⟨b, off, h1, h2, h3⟩ := h.at' k x hx
  exact ⟨b, off, x, h1, h2, hx, h3 0 _ rfl, h3 1 _ rfl, h3 2 _ rfl⟩

set_option maxRecDepth 20000 in
theorem iBeats (w : World) (B lo p : Nat) (t : Tr) (x y : It) (ht : PartAt w B lo t p) (hB : B ≤ w.heap.size) (hx : Ints w B x.A x.n x.xs) (hy : Ints w B y.A y.n y.xs) (px : IsP x.dat) (py : IsP y.dat) :
    Calls Try.prog 55 #[ctV p x, ctV p y] w fun e w' => e = .returned (.bool (btD t x.dat y.dat)) ∧ Below w.heap.size w w' := by
  have HC : Hid (∀ w1, Below w.heap.size w w1 → Calls Try.prog 77 #[.pointer (some ⟨p, 0, none⟩), .agg #[.int .i64 x.id, .slice x.A x.n x.c], .agg #[.int .i64 y.id, .slice y.A y.n y.c]] w1 fun e w' => e = .returned (.int .i64 (cmpD t x.dat y.dat)) ∧ Below w1.heap.size w1 w') := Lib.hid fun w1 h => by
    rw [← cmpD_it]
    exact iCompare B lo x y px py t p w1 (ht.below hB h) (Nat.le_trans hB h.size) (hx.below (h.mono hB)) (hy.below (h.mono hB))
  have HZ : Hid (btD t x.dat y.dat = (cmpD t x.dat y.dat == 1)) := Lib.hid rfl
  rw [HZ.out]
  generalize cmpD t x.dat y.dat = z at *
  have hvx : ctV p x = .agg #[.int .i64 x.id, .slice x.A x.n x.c, .pointer (some ⟨p, 0, none⟩)] := rfl
  have hvy : ctV p y = .agg #[.int .i64 y.id, .slice y.A y.n y.c, .pointer (some ⟨p, 0, none⟩)] := rfl
  rw [hvx, hvy]
  clear HZ hvx hvy ht hB hx hy px py
  have HB0 : Hid (Below w.heap.size w ((w.alloc (.cells #[.int .i64 x.id, .slice x.A x.n x.c, .pointer (some ⟨p, 0, none⟩)] 61)).alloc (.cells #[.int .i64 y.id, .slice y.A y.n y.c, .pointer (some ⟨p, 0, none⟩)] 61))) := Lib.hid (((Below.refl _ w).alloc (Nat.le_refl _) _).alloc (by simp) _)
  go_enter Try.func55, Try.ntmps55
  go_wp2_with fail
  refine (HC.out _ HB0.out).mono ?_
  rintro e w1 ⟨rfl, hb1⟩
  have HB1 := Lib.hid (below_on HB0.out hb1)
  clear hb1
  go_wp2
  go_ret
  exact ⟨rfl, HB1.out⟩
set_option maxRecDepth 20000 in
theorem iBeaten (w : World) (B lo p : Nat) (t : Tr) (x y : It) (ht : PartAt w B lo t p) (hB : B ≤ w.heap.size) (hx : Ints w B x.A x.n x.xs) (hy : Ints w B y.A y.n y.xs) (px : IsP x.dat) (py : IsP y.dat) :
    Calls Try.prog 46 #[ctV p x, ctV p y] w fun e w' => e = .returned (.bool (btD t y.dat x.dat)) ∧ Below w.heap.size w w' := by
  have HC : Hid (∀ w1, Below w.heap.size w w1 → Calls Try.prog 55 #[.agg #[.int .i64 y.id, .slice y.A y.n y.c, .pointer (some ⟨p, 0, none⟩)], .agg #[.int .i64 x.id, .slice x.A x.n x.c, .pointer (some ⟨p, 0, none⟩)]] w1 fun e w' => e = .returned (.bool (btD t y.dat x.dat)) ∧ Below w1.heap.size w1 w') := Lib.hid fun w1 h => iBeats w1 B lo p t y x (ht.below hB h) (Nat.le_trans hB h.size) (hy.below (h.mono hB)) (hx.below (h.mono hB)) py px
  generalize btD t y.dat x.dat = z at *
  have hvx : ctV p x = .agg #[.int .i64 x.id, .slice x.A x.n x.c, .pointer (some ⟨p, 0, none⟩)] := rfl
  have hvy : ctV p y = .agg #[.int .i64 y.id, .slice y.A y.n y.c, .pointer (some ⟨p, 0, none⟩)] := rfl
  rw [hvx, hvy]
  clear hvx hvy ht hB hx hy px py
  have HB0 : Hid (Below w.heap.size w ((w.alloc (.cells #[.int .i64 x.id, .slice x.A x.n x.c, .pointer (some ⟨p, 0, none⟩)] 61)).alloc (.cells #[.int .i64 y.id, .slice y.A y.n y.c, .pointer (some ⟨p, 0, none⟩)] 61))) := Lib.hid (((Below.refl _ w).alloc (Nat.le_refl _) _).alloc (by simp) _)
  go_enter Try.func46, Try.ntmps46
  go_wp2_with fail
  refine (HC.out _ HB0.out).mono ?_
  rintro e w1 ⟨rfl, hb1⟩
  have HB1 := Lib.hid (below_on HB0.out hb1)
  clear hb1
  go_wp2
  go_ret
  exact ⟨rfl, HB1.out⟩
set_option maxRecDepth 20000 in
theorem iLevel (w : World) (B lo p : Nat) (t : Tr) (x y : It) (ht : PartAt w B lo t p) (hB : B ≤ w.heap.size) (hx : Ints w B x.A x.n x.xs) (hy : Ints w B y.A y.n y.xs) (px : IsP x.dat) (py : IsP y.dat) :
    Calls Try.prog 51 #[ctV p x, ctV p y] w fun e w' => e = .returned (.bool (lvB t x.dat y.dat)) ∧ Below w.heap.size w w' := by
  have HC : Hid (∀ w1, Below w.heap.size w w1 → Calls Try.prog 55 #[.agg #[.int .i64 x.id, .slice x.A x.n x.c, .pointer (some ⟨p, 0, none⟩)], .agg #[.int .i64 y.id, .slice y.A y.n y.c, .pointer (some ⟨p, 0, none⟩)]] w1 fun e w' => e = .returned (.bool (btD t x.dat y.dat)) ∧ Below w1.heap.size w1 w') := Lib.hid fun w1 h => iBeats w1 B lo p t x y (ht.below hB h) (Nat.le_trans hB h.size) (hx.below (h.mono hB)) (hy.below (h.mono hB)) px py
  have HD : Hid (∀ w1, Below w.heap.size w w1 → Calls Try.prog 55 #[.agg #[.int .i64 y.id, .slice y.A y.n y.c, .pointer (some ⟨p, 0, none⟩)], .agg #[.int .i64 x.id, .slice x.A x.n x.c, .pointer (some ⟨p, 0, none⟩)]] w1 fun e w' => e = .returned (.bool (btD t y.dat x.dat)) ∧ Below w1.heap.size w1 w') := Lib.hid fun w1 h => iBeats w1 B lo p t y x (ht.below hB h) (Nat.le_trans hB h.size) (hy.below (h.mono hB)) (hx.below (h.mono hB)) py px
  have HZ : Hid (lvB t x.dat y.dat = (!btD t x.dat y.dat && !btD t y.dat x.dat)) := Lib.hid rfl
  rw [HZ.out]
  generalize btD t x.dat y.dat = z at *
  generalize btD t y.dat x.dat = z2 at *
  have hvx : ctV p x = .agg #[.int .i64 x.id, .slice x.A x.n x.c, .pointer (some ⟨p, 0, none⟩)] := rfl
  have hvy : ctV p y = .agg #[.int .i64 y.id, .slice y.A y.n y.c, .pointer (some ⟨p, 0, none⟩)] := rfl
  rw [hvx, hvy]
  clear HZ hvx hvy ht hB hx hy px py
  have HB0 : Hid (Below w.heap.size w ((w.alloc (.cells #[.int .i64 x.id, .slice x.A x.n x.c, .pointer (some ⟨p, 0, none⟩)] 61)).alloc (.cells #[.int .i64 y.id, .slice y.A y.n y.c, .pointer (some ⟨p, 0, none⟩)] 61))) := Lib.hid (((Below.refl _ w).alloc (Nat.le_refl _) _).alloc (by simp) _)
  have Xx : Hid (Box3 ((w.alloc (.cells #[.int .i64 x.id, .slice x.A x.n x.c, .pointer (some ⟨p, 0, none⟩)] 61)).alloc (.cells #[.int .i64 y.id, .slice y.A y.n y.c, .pointer (some ⟨p, 0, none⟩)] 61)) w.heap.size p x) := Lib.hid ((Box3.new w p x _).alloc _)
  have Xy : Hid (Box3 ((w.alloc (.cells #[.int .i64 x.id, .slice x.A x.n x.c, .pointer (some ⟨p, 0, none⟩)] 61)).alloc (.cells #[.int .i64 y.id, .slice y.A y.n y.c, .pointer (some ⟨p, 0, none⟩)] 61)) (w.heap.size + 1) p y) := Lib.hid (by have h := Box3.new (w.alloc (.cells #[.int .i64 x.id, .slice x.A x.n x.c, .pointer (some ⟨p, 0, none⟩)] 61)) p y 61; simpa only [World.size_alloc] using h)
  go_enter Try.func51, Try.ntmps51
  go_wp2_with fail
  refine (HC.out _ HB0.out).mono ?_
  rintro e w1 ⟨rfl, hb1⟩
  have HB1 := Lib.hid (below_on HB0.out hb1)
  have Xx1 := Lib.hid (Xx.out.below hb1)
  have Xy1 := Lib.hid (Xy.out.below hb1)
  obtain ⟨x_g, x_0, x_1, x_2⟩ := Xx1.out
  obtain ⟨y_g, y_0, y_1, y_2⟩ := Xy1.out
  clear hb1
  cases z
  · go_wp2_with fail
    refine (HD.out _ HB1.out).mono ?_
    rintro e w2 ⟨rfl, hb2⟩
    have HB2 := Lib.hid (below_on HB1.out hb2)
    clear hb2 x_g x_0 x_1 x_2 y_g y_0 y_1 y_2
    go_wp2
    go_ret
    exact ⟨rfl, HB2.out⟩
  · go_wp2
    go_ret
    exact ⟨rfl, HB1.out⟩
end Go.Proofs.Ytadjoiahllekdaa.num
namespace Go.Proofs.Ytadjoiahllekdaa.num
set_option maxRecDepth 20000
open Go.RowKit
set_option linter.unusedVariables false
set_option linter.unusedSimpArgs false

theorem any_step {its : List It} {hold : It → Bool} {k : Nat} {t : It} (hat : its[k]? = some t) (h : ∀ u ∈ its.take k, hold u = false) (h1 : hold t = false) : ∀ u ∈ its.take (k + 1), hold u = false := by
  rw [take_at hat]
  intro u hu
  rcases List.mem_append.1 hu with h2 | h2
  · exact h u h2
  · obtain rfl := List.mem_singleton.1 h2
    exact h1
set_option maxRecDepth 20000 in
set_option maxHeartbeats 800000 in
/-- slices.IndexFunc by a test with a bound receiver. -/
theorem ctIndex (w : World) (B lo p : Nat) (t : Tr) (A : Option Addr) (n c : Nat) (its : List It) (h : CtIn w B lo p t A n its) (hn : n ≤ 1048576) (rv : Value) (hold : It → Bool)
    (HC : ∀ W, Below w.heap.size w W → ∀ u ∈ its, Calls Try.prog 46 #[rv, ctV p u] W fun e w' => e = .returned (.bool (hold u)) ∧ Below W.heap.size W w') :
    Calls Try.prog 90 #[.slice A n c, .func (.func 46) #[rv] #[]] w fun e w' => (∃ r : Int, e = .returned (.int .i64 r) ∧ (0 ≤ r ↔ its.any hold = true)) ∧ Below w.heap.size w w' := by
  have HX := Lib.hid h
  have HF := Lib.hid HC
  clear h HC
  go_enter Try.func90, Try.ntmps90
  go_wp2
  go_loopw [8] (fun i wr => ∃ k : Nat, k ≤ n ∧ i = .int .i64 k ∧ (∀ u ∈ its.take k, hold u = false) ∧ Below w.heap.size w wr) (fun i _ => n - (intOf i).toNat)
  case atStart => exact ⟨0, Nat.zero_le _, rfl, by simp, Below.refl _ _⟩
  case round =>
    obtain ⟨k, hk, rfl, hall, hbel⟩ := hrel
    have HA := Lib.hid hall
    have HB := Lib.hid hbel
    clear hall
    by_cases hlt : k < n
    · obtain ⟨b, off, x, rfl, hb, hat, d0, d1, d2⟩ := ct_at HX.out.r k hlt
      have f0 := (hbel.cell (p := ⟨b, off + k * 3, none⟩) hb).trans d0
      have f1 := (hbel.cell (p := ⟨b, off + k * 3 + 1, none⟩) hb).trans d1
      have f2 := (hbel.cell (p := ⟨b, off + k * 3 + 2, none⟩) hb).trans d2
      have HAt := Lib.hid hat
      have hlt' : (k : Int) < (n : Int) := by omega
      have HC1 := HF.out wr HB.out x (mem_of_at hat)
      obtain ⟨z, hz⟩ : ∃ z, hold x = z := ⟨_, rfl⟩
      rw [hz] at HC1
      have hvx : ctV p x = .agg #[.int .i64 x.id, .slice x.A x.n x.c, .pointer (some ⟨p, 0, none⟩)] := rfl
      rw [hvx] at HC1
      have HZ := Lib.hid hz
      have HC2 := Lib.hid HC1
      clear d0 d1 d2 hat hbel hz hvx HC1
      go_wp2_with fail
      refine HC2.out.mono ?_
      rintro e w2 ⟨rfl, hb2⟩
      have HB2 := Lib.hid (below_on HB.out hb2)
      clear hb2 f0 f1 f2 HC2
      cases z
      · go_wp2
        go_roundw
        case rel => exact ⟨k + 1, by omega, by go_num, any_step HAt.out HA.out HZ.out, HB2.out⟩
        case measure => simp [intOf]; omega
      · go_wp2
        go_ret
        exact ⟨⟨k, rfl, ⟨fun _ => List.any_eq_true.2 ⟨x, mem_of_at HAt.out, HZ.out⟩, fun _ => by omega⟩⟩, HB2.out⟩
    · obtain rfl : k = n := by omega
      have h := HA.out
      rw [take_all HX.out.r.len] at h
      have HH := Lib.hid h
      clear h hbel
      go_wp2
      go_ret
      refine ⟨⟨-1, rfl, ⟨fun h => by omega, fun h => ?_⟩⟩, HB.out⟩
      obtain ⟨u, hu, hh⟩ := List.any_eq_true.1 h
      rw [HH.out u hu] at hh
      cases hh
set_option maxRecDepth 20000 in
theorem ctContains (w : World) (B lo p : Nat) (t : Tr) (A : Option Addr) (n c : Nat) (its : List It) (h : CtIn w B lo p t A n its) (hn : n ≤ 1048576) (rv : Value) (hold : It → Bool)
    (HC : ∀ W, Below w.heap.size w W → ∀ u ∈ its, Calls Try.prog 46 #[rv, ctV p u] W fun e w' => e = .returned (.bool (hold u)) ∧ Below W.heap.size W w') :
    Calls Try.prog 70 #[.slice A n c, .func (.func 46) #[rv] #[]] w fun e w' => e = .returned (.bool (its.any hold)) ∧ Below w.heap.size w w' := by
  have HI := Lib.hid (ctIndex w B lo p t A n c its h hn rv hold HC)
  clear h HC
  go_enter Try.func70, Try.ntmps70
  go_wp2_with fail
  refine HI.out.mono ?_
  rintro e w1 ⟨⟨r, rfl, hr⟩, hb1⟩
  have HB1 := Lib.hid hb1
  have HR := Lib.hid hr
  clear hr hb1
  by_cases h0 : 0 ≤ r
  · have hd : decide (r ≥ 0) = true := by simpa using h0
    go_wp2
    go_ret
    exact ⟨by rw [HR.out.1 h0]; rfl, HB1.out⟩
  · have hd : decide (r ≥ 0) = false := by simpa using h0
    have hlt : r < 0 := by omega
    go_wp2
    go_ret
    refine ⟨?_, HB1.out⟩
    cases hq : its.any hold
    · rfl
    · exact absurd (HR.out.2 hq) (by omega)
theorem bestB_any (t : Tr) (its : List It) (x : It) : bestB t (its.map It.dat) x.dat = !its.any fun y => btD t y.dat x.dat := by
  unfold bestB
  rw [List.all_map, List.not_any_eq_all_not]
  rfl
set_option maxRecDepth 20000 in
theorem iBestOf (w : World) (B lo p : Nat) (t : Tr) (A : Option Addr) (n c : Nat) (its : List It) (h : CtIn w B lo p t A n its) (hn : n ≤ 1048576) (x : It) (hx : Ints w B x.A x.n x.xs) (px : IsP x.dat) :
    Calls Try.prog 43 #[.slice A n c, ctV p x] w fun e w' => e = .returned (.bool (bestB t (its.map It.dat) x.dat)) ∧ Below w.heap.size w w' := by
  have HC : Hid (∀ w1, Below w.heap.size w w1 → Calls Try.prog 70 #[.slice A n c, .func (.func 46) #[.agg #[.int .i64 x.id, .slice x.A x.n x.c, .pointer (some ⟨p, 0, none⟩)]] #[]] w1 fun e w' => e = .returned (.bool (its.any fun y => btD t y.dat x.dat)) ∧ Below w1.heap.size w1 w') := Lib.hid fun w1 h1 =>
    ctContains w1 B lo p t A n c its (h.step h1) hn _ _ fun W hW u hu => by
      have h2 := h.step (below_on h1 hW)
      exact iBeaten W B lo p t x u h2.t h2.hB (hx.below ((below_on h1 hW).mono h.hB)) (h2.x u hu).1 px (h2.x u hu).2
  rw [bestB_any]
  generalize (its.any fun y => btD t y.dat x.dat) = z at *
  have hvx : ctV p x = .agg #[.int .i64 x.id, .slice x.A x.n x.c, .pointer (some ⟨p, 0, none⟩)] := rfl
  rw [hvx]
  clear hvx h hx px
  have HB0 : Hid (Below w.heap.size w (w.alloc (.cells #[.int .i64 x.id, .slice x.A x.n x.c, .pointer (some ⟨p, 0, none⟩)] 61))) := Lib.hid ((Below.refl _ w).alloc (Nat.le_refl _) _)
  go_enter Try.func43, Try.ntmps43
  go_wp2_with fail
  refine (HC.out _ HB0.out).mono ?_
  rintro e w1 ⟨rfl, hb1⟩
  have HB1 := Lib.hid (below_on HB0.out hb1)
  clear hb1
  go_wp2
  go_ret
  exact ⟨rfl, HB1.out⟩
theorem filter_step {its : List It} {hold : It → Bool} {k : Nat} {t : It} (hat : its[k]? = some t) : (its.take (k + 1)).filter hold = (its.take k).filter hold ++ (if hold t then [t] else []) := by
  rw [take_at hat, List.filter_append]
  congr 1
  cases h : hold t <;> simp [h]
set_option maxRecDepth 20000 in
set_option maxHeartbeats 800000 in
/-- Those that pass a test with a bound receiver. -/
theorem ctWhere (w : World) (p : Nat) (A : Option Addr) (n c : Nat) (its : List It) (h : ReadG (ctCells p) 3 w w.heap.size A n its) (hn : n ≤ 1048576) (f : FuncId) (hf : f = 46 ∨ f = 55 ∨ f = 51 ∨ f = 43) (rv : Value) (hold : It → Bool)
    (HC : ∀ W, Below w.heap.size w W → ∀ u ∈ its, Calls Try.prog f #[rv, ctV p u] W fun e w' => e = .returned (.bool (hold u)) ∧ Below W.heap.size W w') :
    Calls Try.prog 42 #[.slice A n c, .func (.func f) #[rv] #[]] w fun e w' => (∃ v, e = .returned v ∧ OwnG 61 (ctCells p) 3 w' w.heap.size v (its.filter hold)) ∧ Below w.heap.size w w' := by
  have HX := Lib.hid h
  have HF : Hid (∀ W, Below w.heap.size w W → ∀ u ∈ its, ∀ z, hold u = z → Calls Try.prog f #[rv, .agg #[.int .i64 u.id, .slice u.A u.n u.c, .pointer (some ⟨p, 0, none⟩)]] W fun e w' => e = .returned (.bool z) ∧ Below W.heap.size W w') := Lib.hid fun W hW u hu z hz => by rw [← hz]; exact HC W hW u hu
  clear h HC
  rcases hf with rfl | rfl | rfl | rfl
  all_goals
    go_enter Try.func42, Try.ntmps42
    go_wp2
    go_loopw [5, 10] (fun v i wr => ∃ k : Nat, k ≤ n ∧ i = .int .i64 k ∧ OwnG 61 (ctCells p) 3 wr w.heap.size v ((its.take k).filter hold) ∧ Below w.heap.size w wr) (fun _ i _ => n - (intOf i).toNat)
    case atStart => exact ⟨0, Nat.zero_le _, rfl, OwnG.nil _ _, Below.refl _ _⟩
    case round =>
      obtain ⟨k, hk, rfl, hown, hbel⟩ := hrel
      have HO := Lib.hid hown
      have HB := Lib.hid hbel
      clear hown
      by_cases hlt : k < n
      · obtain ⟨b, off, x, rfl, hb, hat, d0, d1, d2⟩ := ct_at HX.out k hlt
        have f0 := (hbel.cell (p := ⟨b, off + k * 3, none⟩) hb).trans d0
        have f1 := (hbel.cell (p := ⟨b, off + k * 3 + 1, none⟩) hb).trans d1
        have f2 := (hbel.cell (p := ⟨b, off + k * 3 + 2, none⟩) hb).trans d2
        have HAt := Lib.hid hat
        have hlt' : (k : Int) < (n : Int) := by omega
        obtain ⟨z, hz⟩ : ∃ z, hold x = z := ⟨_, rfl⟩
        have HZ := Lib.hid hz
        have HC1 := Lib.hid (fun W (hW : Below w.heap.size w W) => HF.out W hW x (mem_of_at hat) z hz)
        have HBa : Hid (Below w.heap.size w (wr.alloc (.cells #[.int .i64 x.id, .slice x.A x.n x.c, .pointer (some ⟨p, 0, none⟩)] 61))) := Lib.hid (HB.out.alloc HB.out.size _)
        have Xx : Hid (Box3 (wr.alloc (.cells #[.int .i64 x.id, .slice x.A x.n x.c, .pointer (some ⟨p, 0, none⟩)] 61)) wr.heap.size p x) := Lib.hid (Box3.new _ _ _ _)
        have HOa := Lib.hid (HO.out.below ((Below.refl _ wr).alloc (Nat.le_refl _) (.cells #[.int .i64 x.id, .slice x.A x.n x.c, .pointer (some ⟨p, 0, none⟩)] 61)))
        have HLn : Hid ((((its.take k).filter hold).length + 1) * 40 ≤ 140737488355328) := Lib.hid (by
          have h1 : ((its.take k).filter hold).length ≤ (its.take k).length := List.length_filter_le _ _
          rw [List.length_take] at h1
          omega)
        clear d0 d1 d2 hat hbel hz
        go_wp2_with fail
        refine (HC1.out _ HBa.out).mono ?_
        rintro e w2 ⟨rfl, hb2⟩
        have HB2 := Lib.hid (below_on HBa.out hb2)
        have HO2 := Lib.hid (HOa.out.below hb2)
        have Xx2 := Lib.hid (Xx.out.below hb2)
        clear hb2 f0 f1 f2 HC1 HBa HOa Xx
        cases z
        · go_wp2
          go_roundw
          case rel => exact ⟨k + 1, by omega, by go_num, by rw [filter_step HAt.out, HZ.out]; simpa using HO2.out, HB2.out⟩
          case measure => simp [intOf]; omega
        · obtain ⟨x_g, x_0, x_1, x_2⟩ := Xx2.out
          go_wp2_with (at_builtin; refine wp_appG (ctCells_len p) (ctCells_one p) (T := 61) (tS := 52) Try.underlying52 info_ct rfl (by decide) w2 (by rfl) (.tmp 17) (.tmp 19) (by rfl) w.heap.size _ _ (by rfl) HO2.out _ x (by rfl) 1 _ rfl (by rfl) HLn.out (by decide) HB2.out.size ?_)
          intro v' w3 hr hg hat
          have HO3 := Lib.hid hr
          have HB3 := Lib.hid (HB2.out.grown hg HB2.out.size (fun k hk => HO2.out.lows k hk))
          clear hr hg hat x_g x_0 x_1 x_2
          go_wp2
          go_roundw
          case rel => exact ⟨k + 1, by omega, by go_num, by rw [filter_step HAt.out, HZ.out]; exact HO3.out, HB3.out⟩
          case measure => simp [intOf]; omega
      · obtain rfl : k = n := by omega
        have HO1 : Hid (OwnG 61 (ctCells p) 3 wr w.heap.size u5 (its.filter hold)) := Lib.hid (by have h := HO.out; rwa [take_all HX.out.len] at h)
        clear hbel
        go_wp2
        go_ret
        exact ⟨⟨_, rfl, HO1.out⟩, HB.out⟩
set_option maxRecDepth 20000 in
set_option maxHeartbeats 800000 in
theorem ctIds (w : World) (p : Nat) (A : Option Addr) (n c : Nat) (l : List It) (h : ReadG (ctCells p) 3 w w.heap.size A n l) (hn : n ≤ 1048576) :
    Calls Try.prog 44 #[.slice A n c] w fun e w' => (∃ v, e = .returned v ∧ OwnI w' w.heap.size v (idL l)) ∧ Below w.heap.size w w' := by
  have hmk := run_make_row' (P := Try.prog) 28 3 (.int .i64 0) 8 Try.underlying28 info_int rfl .i64 .i64 n (by omega) (by omega)
  have HX := Lib.hid h
  clear h
  go_enter Try.func44, Try.ntmps44
  go_wp2
  clear hmk
  go_loopw [11] (fun i wr => ∃ k : Nat, k ≤ n ∧ i = .int .i64 k ∧ wr.rowIs w.heap.size 3 n (fun j => if j < k then .int .i64 ((idL l).getD j 0) else .int .i64 0) ∧ Below w.heap.size w wr) (fun i _ => n - (intOf i).toNat)
  case atStart =>
    exact ⟨0, Nat.zero_le _, rfl, by simpa using World.rowIs_made w (.int .i64 0) n 3, (Below.refl _ _).alloc (Nat.le_refl _) _⟩
  case round =>
    obtain ⟨k, hk, rfl, hrow, hbel⟩ := hrel
    have HR := Lib.hid hrow
    have HB := Lib.hid hbel
    by_cases hlt : k < n
    · obtain ⟨x, hat⟩ := HX.out.get hlt
      obtain ⟨b, off, rfl, hb, hc⟩ := HX.out.at' k x hat
      have f0 := (hbel.cell (p := ⟨b, off + k * 3, none⟩) hb).trans (hc 0 _ rfl)
      have f1 := (hbel.cell (p := ⟨b, off + k * 3 + 1, none⟩) hb).trans (hc 1 _ rfl)
      have f2 := (hbel.cell (p := ⟨b, off + k * 3 + 2, none⟩) hb).trans (hc 2 _ rfl)
      have hl1 := World.rowIs.lt hrow
      have g1 : wr.cell? ⟨w.heap.size, k, none⟩ = some (.int .i64 0) := by rw [World.rowIs.cell hrow hlt, if_neg (by omega)]
      have g2 := World.rowIs.frozen hrow k
      have HAt := Lib.hid hat
      have hsz := Lib.hid hbel.size
      clear hrow hbel hc hat
      go_wp2
      go_roundw
      case rel =>
        refine ⟨k + 1, by omega, by go_num, ?_, ?_⟩
        · first
          | exact (World.rowIs.set (World.rowIs.alloc HR.out _) k (.int .i64 x.id)).congr (fun j _ => by rw [← idL_get HAt.out]; exact getD_prefix (idL l) k j)
          | exact (World.rowIs.alloc (World.rowIs.set HR.out k (.int .i64 x.id)) _).congr (fun j _ => by rw [← idL_get HAt.out]; exact getD_prefix (idL l) k j)
        · first
          | exact (HB.out.alloc hsz.out _).setCell (Nat.le_refl _) _
          | exact (HB.out.setCell (p := ⟨w.heap.size, k, none⟩) (Nat.le_refl _) _).alloc (by simp [World.setCell]; exact hsz.out) _
      case measure => simp [intOf]; omega
    · obtain rfl : k = n := by omega
      clear hrow hbel
      go_wp2
      go_ret
      refine ⟨⟨_, rfl, ?_⟩, HB.out⟩
      have hl : (idL l).length = k := by rw [idL_len, HX.out.len]
      refine ownI_of_row (Nat.le_refl _) hl (Nat.le_refl _) (by unfold maxLen; omega) HR.out fun j hj => ?_
      rw [if_pos hj, List.getElem?_map, List.getD_eq_getElem?_getD, List.getElem?_eq_getElem (by omega)]; rfl
end Go.Proofs.Ytadjoiahllekdaa.num
namespace Go.Proofs.Ytadjoiahllekdaa.num
set_option maxRecDepth 20000
open Go.RowKit
set_option linter.unusedVariables false
set_option linter.unusedSimpArgs false

set_option maxRecDepth 20000 in
theorem sFine (w : World) (B : Nat) (A : Option Addr) (n c : Nat) (its : List It) (A2 : Option Addr) (n2 c2 : Nat) (ns : List Nd) (h : InB w B A n its A2 n2 c2 ns) (q : Bool) (hq : q = true ↔ IsE (datN ns) ∧ AreP (its.map It.dat)) :
    Calls Try.prog 47 #[.slice A n c, .slice A2 n2 c2] w fun e w' => e = .returned (.bool q) ∧ Below w.heap.size w w' := by
  obtain ⟨qa, hqa⟩ := bool_of (AreP (its.map It.dat))
  obtain ⟨qe, hqe⟩ := bool_of (IsE (datN ns))
  have HA : Hid (Calls Try.prog 23 #[.slice A n c] w fun e w' => e = .returned (.bool qa) ∧ Below w.heap.size w w') := Lib.hid (sAre w B A n c its h.i h.hB h.hn h.si qa hqa)
  have HE : Hid (∀ w1, Below w.heap.size w w1 → Calls Try.prog 24 #[.slice A2 n2 c2] w1 fun e w' => e = .returned (.bool qe) ∧ Below w1.heap.size w1 w') := Lib.hid fun w1 h1 => sIsE w1 B A2 n2 c2 ns (h.below h1).e (h.below h1).hB h.hn2 h.se qe hqe
  have HQ : Hid (q = (qa && qe)) := Lib.hid (by
    rw [Bool.eq_iff_iff, Bool.and_eq_true, hq, hqa, hqe]
    exact And.comm)
  clear hq hqa hqe h
  go_enter Try.func47, Try.ntmps47
  go_wp2_with fail
  refine HA.out.mono ?_
  rintro e w1 ⟨rfl, hb1⟩
  have HB1 := Lib.hid hb1
  clear hb1 HA
  cases qa
  · obtain rfl : q = false := HQ.out
    go_wp2
    go_ret
    exact ⟨rfl, HB1.out⟩
  · go_wp2_with fail
    refine (HE.out _ HB1.out).mono ?_
    rintro e w2 ⟨rfl, hb2⟩
    have HB2 := Lib.hid (below_on HB1.out hb2)
    clear hb2
    obtain rfl : q = qe := by rw [HQ.out]; rfl
    go_wp2
    go_ret
    exact ⟨rfl, HB2.out⟩
/-- The model's comparison of two of the items. -/
theorem sCmpIn (w : World) (B : Nat) (A : Option Addr) (n c : Nat) (its : List It) (A2 : Option Addr) (n2 c2 : Nat) (ns : List Nd) (h : InB w B A n its A2 n2 c2 ns) (he : IsE (datN ns)) (ha : AreP (its.map It.dat)) (t : Tr) (ht : Post (datN ns) t) (W : World) (hW : Below w.heap.size w W) (x y : It) (hx : x ∈ its) (hy : y ∈ its) :
    Calls Try.prog 49 #[.slice A2 n2 c2, .agg #[.int .i64 x.id, .slice x.A x.n x.c], .agg #[.int .i64 y.id, .slice y.A y.n y.c]] W fun e w' => e = .returned (.int .i64 (cmpD t x.dat y.dat)) ∧ Below W.heap.size W w' := by
  have h1 := h.below hW
  rw [← cmpD_it]
  exact sCompare W B A2 n2 c2 ns x y h1.e (h1.i.mem hx) (h1.i.mem hy) h1.hB h1.se (ha.1 _ (List.mem_map_of_mem hx)) (ha.1 _ (List.mem_map_of_mem hy)) t ht (by
    have h9 := he.1
    have hl : ns.length = n2 := h.e.len
    unfold datN at h9
    rw [List.length_map] at h9
    omega)
theorem all_snoc {its : List It} {f : It → Bool} {k : Nat} {t : It} (hat : its[k]? = some t) : (its.take (k + 1)).all f = ((its.take k).all f && f t) := by
  rw [take_at hat, List.all_append]
  simp
theorem fil_snoc {its : List It} {f : It → Bool} {k : Nat} {t : It} (hat : its[k]? = some t) : idL ((its.take (k + 1)).filter f) = idL ((its.take k).filter f) ++ (if f t then [t.id] else []) := by
  rw [take_at hat, List.filter_append]
  unfold idL
  rw [List.map_append]
  congr 1
  cases h : f t <;> simp [h]
theorem flt_snoc {its : List It} {f : It → Bool} {k : Nat} {t : It} (hat : its[k]? = some t) : ((its.take (k + 1)).filter f).length = ((its.take k).filter f).length + (if f t then 1 else 0) := by
  rw [take_at hat, List.filter_append, List.length_append]
  congr 1
  cases h : f t <;> simp [h]
theorem fil_len (its : List It) (f : It → Bool) (k : Nat) : (idL ((its.take k).filter f)).length ≤ k := by
  rw [idL_len]
  have h1 : ((its.take k).filter f).length ≤ (its.take k).length := List.length_filter_le _ _
  rw [List.length_take] at h1
  omega
theorem ids_fil (its : List It) (f : Dt → Bool) : idsD ((its.map It.dat).filter f) = idL (its.filter fun u => f u.dat) := by
  unfold idsD idL
  rw [List.filter_map, List.map_map]
  rfl
theorem best_ids (t : Tr) (its : List It) : idsD (bestD t (its.map It.dat)) = idL (its.filter fun x => its.all fun y => !btD t y.dat x.dat) := by
  unfold bestD
  rw [ids_fil]
  congr 1
  apply List.filter_congr
  intro x _
  unfold bestB
  rw [List.all_map]
  rfl
set_option maxRecDepth 20000 in
set_option maxHeartbeats 3200000 in
theorem sBestL (w : World) (B : Nat) (A : Option Addr) (n c : Nat) (its : List It) (A2 : Option Addr) (n2 c2 : Nat) (ns : List Nd) (h : InB w B A n its A2 n2 c2 ns) (he : IsE (datN ns)) (ha : AreP (its.map It.dat)) (t : Tr) (ht : Post (datN ns) t) :
    Calls Try.prog 48 #[.slice A n c, .slice A2 n2 c2] w fun e w' => (∃ v, e = .returned v ∧ OwnI w' w.heap.size v (idsD (bestD t (its.map It.dat)))) ∧ Below w.heap.size w w' := by
  have HC : Hid (∀ W, Below w.heap.size w W → ∀ x y, x ∈ its → y ∈ its → Calls Try.prog 49 #[.slice A2 n2 c2, .agg #[.int .i64 x.id, .slice x.A x.n x.c], .agg #[.int .i64 y.id, .slice y.A y.n y.c]] W fun e w' => e = .returned (.int .i64 (cmpD t x.dat y.dat)) ∧ Below W.heap.size W w') := Lib.hid fun W hW x y hx hy => sCmpIn w B A n c its A2 n2 c2 ns h he ha t ht W hW x y hx hy
  rw [best_ids]
  have HX := Lib.hid h.i
  have hB := h.hB
  have hn := h.hn
  clear h he ha ht
  go_enter Try.func48, Try.ntmps48
  go_wp2
  go_loopw [5, 6] (fun v i wr => ∃ k : Nat, k ≤ n ∧ i = .int .i64 k ∧ OwnI wr w.heap.size v (idL ((its.take k).filter fun x => its.all fun y => !btD t y.dat x.dat)) ∧ Below w.heap.size w wr) (fun _ i _ => n - (intOf i).toNat)
  case atStart => exact ⟨0, Nat.zero_le _, rfl, OwnI.empty w _ (Nat.le_refl _), (Below.refl _ _).alloc (Nat.le_refl _) _⟩
  case round =>
    obtain ⟨k, hk, rfl, hown, hbel⟩ := hrel
    have HO := Lib.hid hown
    have HB := Lib.hid hbel
    clear hown
    by_cases hlt : k < n
    · obtain ⟨b1, off, x, rfl, hb1, hat, d0, d1, -⟩ := HX.out.at k hlt
      have hbw : b1 < w.heap.size := Nat.lt_of_lt_of_le hb1 hB
      have HAt := Lib.hid hat
      have HD := Lib.hid (And.intro d0 d1)
      have hlt' : (k : Int) < (n : Int) := by omega
      have hk0 : (0 : Int) ≤ (k : Int) := by omega
      clear d0 d1 hat
      go_wp2
      go_loopw [7, 8] (fun v j wr => ∃ m : Nat, m ≤ n ∧ j = .int .i64 m ∧ v = .bool ((its.take m).all fun y => !btD t y.dat x.dat) ∧ Below w.heap.size w wr ∧ OwnI wr w.heap.size u5 (idL ((its.take k).filter fun x => its.all fun y => !btD t y.dat x.dat))) (fun _ j _ => n - (intOf j).toNat)
      case atStart => exact ⟨0, Nat.zero_le _, rfl, rfl, HB.out, HO.out⟩
      case round =>
        clear hbel
        obtain ⟨m, hm, rfl, rfl, hbel, hown⟩ := hrel
        have HBi := Lib.hid hbel
        have HOi := Lib.hid hown
        obtain ⟨bb, hbb⟩ : ∃ bb, ((its.take m).all fun y => !btD t y.dat x.dat) = bb := ⟨_, rfl⟩
        rw [hbb]
        have HBb := Lib.hid hbb
        clear hbb hown
        by_cases hmt : m < n
        · obtain ⟨b2, off2, y, hA2, hb2, hat, d0, d1, -⟩ := HX.out.at m hmt
          injection hA2 with hA2
          injection hA2 with e1 e2
          subst e1 e2
          have HAt2 := Lib.hid hat
          have HD2 := Lib.hid (And.intro d0 d1)
          have hmt' : (m : Int) < (n : Int) := by omega
          have hm0 : (0 : Int) ≤ (m : Int) := by omega
          have HS : Hid (∀ w', Below w.heap.size w w' → w'.cell? ⟨b1, off + k * 2, none⟩ = some (.int .i64 x.id) ∧ w'.cell? ⟨b1, off + k * 2 + 1, none⟩ = some (.slice x.A x.n x.c) ∧ w'.cell? ⟨b1, off + m * 2, none⟩ = some (.int .i64 y.id) ∧ w'.cell? ⟨b1, off + m * 2 + 1, none⟩ = some (.slice y.A y.n y.c)) := Lib.hid fun W h => ⟨(h.cell (p := ⟨b1, off + k * 2, none⟩) hbw).trans HD.out.1, (h.cell (p := ⟨b1, off + k * 2 + 1, none⟩) hbw).trans HD.out.2, (h.cell (p := ⟨b1, off + m * 2, none⟩) hbw).trans HD2.out.1, (h.cell (p := ⟨b1, off + m * 2 + 1, none⟩) hbw).trans HD2.out.2⟩
          clear d0 d1 hat
          cases bb
          · go_wp2
            have hS0 : (fun w' => w'.cell? ⟨b1, off + k * 2, none⟩ = some (.int .i64 x.id) ∧ w'.cell? ⟨b1, off + k * 2 + 1, none⟩ = some (.slice x.A x.n x.c) ∧ w'.cell? ⟨b1, off + m * 2, none⟩ = some (.int .i64 y.id) ∧ w'.cell? ⟨b1, off + m * 2 + 1, none⟩ = some (.slice y.A y.n y.c)) (World.drew wr) := HS.out _ HBi.out.drew
            clear hbel
            refine wp_region_held (S := fun w' => w'.cell? ⟨b1, off + k * 2, none⟩ = some (.int .i64 x.id) ∧ w'.cell? ⟨b1, off + k * 2 + 1, none⟩ = some (.slice x.A x.n x.c) ∧ w'.cell? ⟨b1, off + m * 2, none⟩ = some (.int .i64 y.id) ∧ w'.cell? ⟨b1, off + m * 2 + 1, none⟩ = some (.slice y.A y.n y.c)) (by kernel_rfl) ?_
            change wpAnyH _ _ _ _ _ _ _ _ (World.drew _)
            refine takeY 22 (i := 0) (v := ?v0b) rfl rfl (by kernel_rfl) (by kernel_rfl) (by kernel_rfl) (fun _ _ _ h => h) (by kernel_rfl) ?y0b hS0 ?_
            case y0b =>
              intro w' hw'; (try dsimp only at hw'); obtain ⟨x_0, x_1, y_0, y_1⟩ := hw'; go_simp; try with_reducible rfl
            simp only [Act.put, List.setIfInBounds_toArray, List.set_cons_zero, List.set_cons_succ]
            refine takeY 23 (i := 1) (v := ?v1b) rfl rfl (by kernel_rfl) (by kernel_rfl) (by kernel_rfl) (fun _ _ _ h => h) (by kernel_rfl) ?y1b hS0 ?_
            case y1b =>
              intro w' hw'; (try dsimp only at hw'); obtain ⟨x_0, x_1, y_0, y_1⟩ := hw'; go_simp; try with_reducible rfl
            simp only [Act.put, List.setIfInBounds_toArray, List.set_cons_zero, List.set_cons_succ]
            refine takeU 24 (i := 2) rfl rfl (by kernel_rfl) (by kernel_rfl) (by kernel_rfl) (fun _ _ _ h => h) (by kernel_rfl) hS0 ?_
            simp only [Act.put, List.setIfInBounds_toArray, List.set_cons_zero, List.set_cons_succ]
            refine takeU 25 (i := 3) rfl rfl (by kernel_rfl) (by kernel_rfl) (by kernel_rfl) (fun _ _ _ h => h) (by kernel_rfl) hS0 ?_
            simp only [Act.put, List.setIfInBounds_toArray, List.set_cons_zero, List.set_cons_succ]
            refine takeU 26 (i := 4) rfl rfl (by kernel_rfl) (by kernel_rfl) (by kernel_rfl) (fun _ _ _ h => h) (by kernel_rfl) hS0 ?_
            simp only [Act.put, List.setIfInBounds_toArray, List.set_cons_zero, List.set_cons_succ]
            refine takeU 27 (i := 5) rfl rfl (by kernel_rfl) (by kernel_rfl) (by kernel_rfl) (fun _ _ _ h => h) (by kernel_rfl) hS0 ?_
            simp only [Act.put, List.setIfInBounds_toArray, List.set_cons_zero, List.set_cons_succ]
            refine takeU 28 (i := 6) rfl rfl (by kernel_rfl) (by kernel_rfl) (by kernel_rfl) (fun _ _ _ h => h) (by kernel_rfl) hS0 ?_
            simp only [Act.put, List.setIfInBounds_toArray, List.set_cons_zero, List.set_cons_succ]
            refine takeU 29 (i := 7) rfl rfl (by kernel_rfl) (by kernel_rfl) (by kernel_rfl) (fun _ _ _ h => h) (by kernel_rfl) hS0 ?_
            simp only [Act.put, List.setIfInBounds_toArray, List.set_cons_zero, List.set_cons_succ]
            refine takeU 30 (i := 8) rfl rfl (by kernel_rfl) (by kernel_rfl) (by kernel_rfl) (fun _ _ _ h => h) (by kernel_rfl) hS0 ?_
            simp only [Act.put, List.setIfInBounds_toArray, List.set_cons_zero, List.set_cons_succ]
            refine takeU 31 (i := 9) rfl rfl (by kernel_rfl) (by kernel_rfl) (by kernel_rfl) (fun _ _ _ h => h) (by kernel_rfl) hS0 ?_
            simp only [Act.put, List.setIfInBounds_toArray, List.set_cons_zero, List.set_cons_succ]
            refine takeU 32 (i := 10) rfl rfl (by kernel_rfl) (by kernel_rfl) (by kernel_rfl) (fun _ _ _ h => h) (by kernel_rfl) hS0 ?_
            simp only [Act.put, List.setIfInBounds_toArray, List.set_cons_zero, List.set_cons_succ]
            refine takeU 33 (i := 11) rfl rfl (by kernel_rfl) (by kernel_rfl) (by kernel_rfl) (fun _ _ _ h => h) (by kernel_rfl) hS0 ?_
            simp only [Act.put, List.setIfInBounds_toArray, List.set_cons_zero, List.set_cons_succ]
            refine takeU 34 (i := 12) rfl rfl (by kernel_rfl) (by kernel_rfl) (by kernel_rfl) (fun _ _ _ h => h) (by kernel_rfl) hS0 ?_
            simp only [Act.put, List.setIfInBounds_toArray, List.set_cons_zero, List.set_cons_succ]
            refine takeY 35 (i := 13) (v := ?v13b) rfl rfl (by kernel_rfl) (by kernel_rfl) (by kernel_rfl) (fun _ _ _ h => h) (by kernel_rfl) ?y13b hS0 ?_
            case y13b =>
              intro w' hw'; (try dsimp only at hw'); obtain ⟨x_0, x_1, y_0, y_1⟩ := hw'; go_simp; try with_reducible rfl
            simp only [Act.put, List.setIfInBounds_toArray, List.set_cons_zero, List.set_cons_succ]
            refine takeY 7 (i := 14) (v := ?v14b) rfl rfl (by kernel_rfl) (by kernel_rfl) (by kernel_rfl) (fun _ _ _ h => h) (by kernel_rfl) ?y14b hS0 ?_
            case y14b =>
              intro w' hw'; (try dsimp only at hw'); obtain ⟨x_0, x_1, y_0, y_1⟩ := hw'; go_simp; try with_reducible rfl
            simp only [Act.put, List.setIfInBounds_toArray, List.set_cons_zero, List.set_cons_succ]
            refine wpAnyH_done (by kernel_rfl) ?_ _
            clear hS0
            go_wp2
            go_roundw
            case rel => exact ⟨m + 1, by omega, by go_num, by rw [all_snoc HAt2.out, HBb.out]; rfl, HBi.out.drew, ownI_below HOi.out (Below.refl _ _).drew⟩
            case measure => simp [intOf]; omega
          · go_wp2
            have hS0 : (fun w' => w'.cell? ⟨b1, off + k * 2, none⟩ = some (.int .i64 x.id) ∧ w'.cell? ⟨b1, off + k * 2 + 1, none⟩ = some (.slice x.A x.n x.c) ∧ w'.cell? ⟨b1, off + m * 2, none⟩ = some (.int .i64 y.id) ∧ w'.cell? ⟨b1, off + m * 2 + 1, none⟩ = some (.slice y.A y.n y.c)) (World.drew wr) := HS.out _ HBi.out.drew
            clear hbel
            refine wp_region_held (S := fun w' => w'.cell? ⟨b1, off + k * 2, none⟩ = some (.int .i64 x.id) ∧ w'.cell? ⟨b1, off + k * 2 + 1, none⟩ = some (.slice x.A x.n x.c) ∧ w'.cell? ⟨b1, off + m * 2, none⟩ = some (.int .i64 y.id) ∧ w'.cell? ⟨b1, off + m * 2 + 1, none⟩ = some (.slice y.A y.n y.c)) (by kernel_rfl) ?_
            change wpAnyH _ _ _ _ _ _ _ _ (World.drew _)
            refine takeY 22 (i := 0) (v := ?v0a) rfl rfl (by kernel_rfl) (by kernel_rfl) (by kernel_rfl) (fun _ _ _ h => h) (by kernel_rfl) ?y0a hS0 ?_
            case y0a =>
              intro w' hw'; (try dsimp only at hw'); obtain ⟨x_0, x_1, y_0, y_1⟩ := hw'; go_simp; try with_reducible rfl
            simp only [Act.put, List.setIfInBounds_toArray, List.set_cons_zero, List.set_cons_succ]
            refine takeY 23 (i := 1) (v := ?v1a) rfl rfl (by kernel_rfl) (by kernel_rfl) (by kernel_rfl) (fun _ _ _ h => h) (by kernel_rfl) ?y1a hS0 ?_
            case y1a =>
              intro w' hw'; (try dsimp only at hw'); obtain ⟨x_0, x_1, y_0, y_1⟩ := hw'; go_simp; try with_reducible rfl
            simp only [Act.put, List.setIfInBounds_toArray, List.set_cons_zero, List.set_cons_succ]
            refine takeY 24 (i := 2) (v := ?v2a) rfl rfl (by kernel_rfl) (by kernel_rfl) (by kernel_rfl) (fun _ _ _ h => h) (by kernel_rfl) ?y2a hS0 ?_
            case y2a =>
              intro w' hw'; (try dsimp only at hw'); obtain ⟨x_0, x_1, y_0, y_1⟩ := hw'; go_simp; try with_reducible rfl
            simp only [Act.put, List.setIfInBounds_toArray, List.set_cons_zero, List.set_cons_succ]
            refine takeY 25 (i := 3) (v := ?v3a) rfl rfl (by kernel_rfl) (by kernel_rfl) (by kernel_rfl) (fun _ _ _ h => h) (by kernel_rfl) ?y3a hS0 ?_
            case y3a =>
              intro w' hw'; (try dsimp only at hw'); obtain ⟨x_0, x_1, y_0, y_1⟩ := hw'; go_simp; try with_reducible rfl
            simp only [Act.put, List.setIfInBounds_toArray, List.set_cons_zero, List.set_cons_succ]
            refine takeY 26 (i := 4) (v := ?v4a) rfl rfl (by kernel_rfl) (by kernel_rfl) (by kernel_rfl) (fun _ _ _ h => h) (by kernel_rfl) ?y4a hS0 ?_
            case y4a =>
              intro w' hw'; (try dsimp only at hw'); obtain ⟨x_0, x_1, y_0, y_1⟩ := hw'; go_simp; try with_reducible rfl
            simp only [Act.put, List.setIfInBounds_toArray, List.set_cons_zero, List.set_cons_succ]
            refine takeY 27 (i := 5) (v := ?v5a) rfl rfl (by kernel_rfl) (by kernel_rfl) (by kernel_rfl) (fun _ _ _ h => h) (by kernel_rfl) ?y5a hS0 ?_
            case y5a =>
              intro w' hw'; (try dsimp only at hw'); obtain ⟨x_0, x_1, y_0, y_1⟩ := hw'; go_simp; try with_reducible rfl
            simp only [Act.put, List.setIfInBounds_toArray, List.set_cons_zero, List.set_cons_succ]
            refine takeY 28 (i := 6) (v := ?v6a) rfl rfl (by kernel_rfl) (by kernel_rfl) (by kernel_rfl) (fun _ _ _ h => h) (by kernel_rfl) ?y6a hS0 ?_
            case y6a =>
              intro w' hw'; (try dsimp only at hw'); obtain ⟨x_0, x_1, y_0, y_1⟩ := hw'; go_simp; try with_reducible rfl
            simp only [Act.put, List.setIfInBounds_toArray, List.set_cons_zero, List.set_cons_succ]
            refine takeY 29 (i := 7) (v := ?v7a) rfl rfl (by kernel_rfl) (by kernel_rfl) (by kernel_rfl) (fun _ _ _ h => h) (by kernel_rfl) ?y7a hS0 ?_
            case y7a =>
              intro w' hw'; (try dsimp only at hw'); obtain ⟨x_0, x_1, y_0, y_1⟩ := hw'; go_simp; try with_reducible rfl
            simp only [Act.put, List.setIfInBounds_toArray, List.set_cons_zero, List.set_cons_succ]
            refine takeY 30 (i := 8) (v := ?v8a) rfl rfl (by kernel_rfl) (by kernel_rfl) (by kernel_rfl) (fun _ _ _ h => h) (by kernel_rfl) ?y8a hS0 ?_
            case y8a =>
              intro w' hw'; (try dsimp only at hw'); obtain ⟨x_0, x_1, y_0, y_1⟩ := hw'; go_simp; try with_reducible rfl
            simp only [Act.put, List.setIfInBounds_toArray, List.set_cons_zero, List.set_cons_succ]
            refine takeY 31 (i := 9) (v := ?v9a) rfl rfl (by kernel_rfl) (by kernel_rfl) (by kernel_rfl) (fun _ _ _ h => h) (by kernel_rfl) ?y9a hS0 ?_
            case y9a =>
              intro w' hw'; (try dsimp only at hw'); obtain ⟨x_0, x_1, y_0, y_1⟩ := hw'; go_simp; try with_reducible rfl
            simp only [Act.put, List.setIfInBounds_toArray, List.set_cons_zero, List.set_cons_succ]
            refine takeY 32 (i := 10) (v := ?v10a) rfl rfl (by kernel_rfl) (by kernel_rfl) (by kernel_rfl) (fun _ _ _ h => h) (by kernel_rfl) ?y10a hS0 ?_
            case y10a =>
              intro w' hw'; (try dsimp only at hw'); obtain ⟨x_0, x_1, y_0, y_1⟩ := hw'; go_simp; try with_reducible rfl
            simp only [Act.put, List.setIfInBounds_toArray, List.set_cons_zero, List.set_cons_succ]
            refine wpAnyH_ready (rs := [11]) (by kernel_rfl) (by simp) ?_
            refine AllReadyH.cons rfl (fun K hK => ?_) AllReadyH.nil
            go_simp; go_at_call 49; refine (HC.out _ HBi.out.drew y x (mem_of_at HAt2.out) (mem_of_at HAt.out)).mono ?_; rintro e w3 ⟨rfl, hb3⟩; have HB3 := Lib.hid (below_on HBi.out.drew hb3); have HO3 := Lib.hid (ownI_below (ownI_below HOi.out (Below.refl _ _).drew) hb3); clear hb3
            refine hK.out _ _ (HS.out _ HB3.out) (fun hS1 => ?_)
            clear hK K
            try simp only [Act.put, List.setIfInBounds_toArray, List.set_cons_zero, List.set_cons_succ]
            refine takeY 34 (i := 12) (v := ?v12a) rfl rfl (by kernel_rfl) (by kernel_rfl) (by kernel_rfl) (fun _ _ _ h => h) (by kernel_rfl) ?y12a hS1 ?_
            case y12a =>
              intro w' hw'; (try dsimp only at hw'); obtain ⟨x_0, x_1, y_0, y_1⟩ := hw'; go_simp; try with_reducible rfl
            simp only [Act.put, List.setIfInBounds_toArray, List.set_cons_zero, List.set_cons_succ]
            refine takeY 35 (i := 13) (v := ?v13a) rfl rfl (by kernel_rfl) (by kernel_rfl) (by kernel_rfl) (fun _ _ _ h => h) (by kernel_rfl) ?y13a hS1 ?_
            case y13a =>
              intro w' hw'; (try dsimp only at hw'); obtain ⟨x_0, x_1, y_0, y_1⟩ := hw'; go_simp; try with_reducible rfl
            simp only [Act.put, List.setIfInBounds_toArray, List.set_cons_zero, List.set_cons_succ]
            refine takeY 7 (i := 14) (v := ?v14a) rfl rfl (by kernel_rfl) (by kernel_rfl) (by kernel_rfl) (fun _ _ _ h => h) (by kernel_rfl) ?y14a hS1 ?_
            case y14a =>
              intro w' hw'; (try dsimp only at hw'); obtain ⟨x_0, x_1, y_0, y_1⟩ := hw'; go_simp; try with_reducible rfl
            simp only [Act.put, List.setIfInBounds_toArray, List.set_cons_zero, List.set_cons_succ]
            refine wpAnyH_done (by kernel_rfl) ?_ _
            clear hS0 hS1
            go_wp2
            go_roundw
            case rel => exact ⟨m + 1, by omega, by go_num, by rw [all_snoc HAt2.out, HBb.out]; rfl, HB3.out, HO3.out⟩
            case measure => simp [intOf]; omega
        · obtain rfl : m = n := by omega
          have HBb2 : Hid ((its.all fun y => !btD t y.dat x.dat) = bb) := Lib.hid (by have h := HBb.out; rwa [take_all HX.out.1] at h)
          have f1 := (hbel.cell (p := ⟨b1, off + k * 2, none⟩) hbw).trans HD.out.1
          have HLn : Hid (((idL ((its.take k).filter fun x => its.all fun y => !btD t y.dat x.dat)).length + [x.id].length) * 8 ≤ 140737488355328) := Lib.hid (by
            have h1 := fil_len its (fun x => its.all fun y => !btD t y.dat x.dat) k
            simp only [List.length_cons, List.length_nil]
            omega)
          clear hbel HBb
          cases bb
          · go_wp2
            go_roundw
            case rel => exact ⟨k + 1, by omega, by go_num, by rw [fil_snoc HAt.out, HBb2.out]; simpa using HOi.out, HBi.out⟩
            case measure => simp [intOf]; omega
          · go_wp2_with (at_builtin; refine wp_appI wr (by rfl) (.tmp 37) (.tmp 43) (by rfl) w.heap.size _ _ (by rfl) HOi.out _ [x.id] (by rfl) 1 1 rfl (by rfl) HLn.out HBi.out.size ?_)
            intro v1 w2 hown2 hb2
            have HO2 := Lib.hid hown2
            have HB2 := Lib.hid (HBi.out.trans hb2)
            clear hown2 hb2 f1
            go_wp2
            go_roundw
            case rel => exact ⟨k + 1, by omega, by go_num, by rw [fil_snoc HAt.out, HBb2.out]; exact HO2.out, HB2.out⟩
            case measure => simp [intOf]; omega
    · obtain rfl : k = n := by omega
      have HO' : Hid (OwnI wr w.heap.size u5 (idL (its.filter fun x => its.all fun y => !btD t y.dat x.dat))) := Lib.hid (by have h := HO.out; rwa [take_all HX.out.1] at h)
      clear hbel
      go_wp2
      go_ret
      exact ⟨⟨_, rfl, HO'.out⟩, HB.out⟩
theorem ownI_lower {w : World} {B B' : Nat} {v : Value} {l : List Int} (h : OwnI w B v l) (hB : B' ≤ B) : OwnI w B' v l := ⟨h.1, h.2.imp id fun ⟨g, cap, cur, h1, h2, h3⟩ => ⟨g, cap, cur, h1, Nat.le_trans hB h2, h3⟩⟩
set_option maxRecDepth 20000 in
theorem sBest (w : World) (B : Nat) (A : Option Addr) (n c : Nat) (its : List It) (A2 : Option Addr) (n2 c2 : Nat) (ns : List Nd) (h : InB w B A n its A2 n2 c2 ns) (L : List Int) (hL : BestP (datN ns) (its.map It.dat) L) :
    Calls Try.prog 15 #[.slice A n c, .slice A2 n2 c2] w fun e w' => (∃ v, e = .returned v ∧ OwnI w' w.heap.size v L) ∧ Below w.heap.size w w' := by
  obtain ⟨q, hq⟩ := bool_of (IsE (datN ns) ∧ AreP (its.map It.dat))
  have HFn : Hid (∀ w1, Below w.heap.size w w1 → Calls Try.prog 47 #[.slice A n c, .slice A2 n2 c2] w1 fun e w' => e = .returned (.bool q) ∧ Below w1.heap.size w1 w') := Lib.hid fun w1 h1 => sFine w1 B A n c its A2 n2 c2 ns (h.below h1) q hq
  have HY : Hid (q = true → ∀ w1, Below w.heap.size w w1 → Calls Try.prog 48 #[.slice A n c, .slice A2 n2 c2] w1 fun e w' => (∃ v, e = .returned v ∧ OwnI w' w1.heap.size v L) ∧ Below w1.heap.size w1 w') := Lib.hid fun hqt w1 h1 => by
    obtain ⟨he, ha⟩ := hq.1 hqt
    obtain ⟨t, ht⟩ := he.2
    rw [hL.yes he ha ht]
    exact sBestL w1 B A n c its A2 n2 c2 ns (h.below h1) he ha t ht
  have HN : Hid (q = false → L = []) := Lib.hid fun hqf => hL.no (fun hh => by rw [hq.2 hh] at hqf; cases hqf)
  clear h hL hq
  go_enter Try.func15, Try.ntmps15
  go_wp2_with fail
  refine (HFn.out _ (Below.refl _ _)).mono ?_
  rintro e w1 ⟨rfl, hb1⟩
  have HB1 := Lib.hid hb1
  clear hb1
  cases q
  · obtain rfl := HN.out (by first | rfl | trivial)
    go_wp2
    go_ret
    exact ⟨⟨_, rfl, OwnI.empty w1 _ HB1.out.size⟩, HB1.out.alloc HB1.out.size _⟩
  · go_wp2_with fail
    refine (HY.out (by first | rfl | trivial) _ HB1.out).mono ?_
    rintro e w2 ⟨⟨v, rfl, ho⟩, hb2⟩
    have HB2 := Lib.hid (below_on HB1.out hb2)
    have HO := Lib.hid (ownI_lower ho HB1.out.size)
    clear ho hb2
    go_wp2
    go_ret
    exact ⟨⟨_, rfl, HO.out⟩, HB2.out⟩
set_option maxRecDepth 20000 in
theorem sIsBest (w : World) (B : Nat) (A : Option Addr) (n c : Nat) (its : List It) (A2 : Option Addr) (n2 c2 : Nat) (ns : List Nd) (h : InB w B A n its A2 n2 c2 ns) (x : Int) (b : Bool) (hb : IsBP (datN ns) (its.map It.dat) x b) :
    Calls Try.prog 38 #[.slice A n c, .slice A2 n2 c2, .int .i64 x] w fun e w' => e = .returned (.bool b) ∧ Below w.heap.size w w' := by
  obtain ⟨L, hL⟩ := AnsP.some (datN ns) (its.map It.dat) (fun t => idsD (bestD t (its.map It.dat))) []
  replace hL : BestP (datN ns) (its.map It.dat) L := hL
  have HC := Lib.hid (sBest w B A n c its A2 n2 c2 ns h L hL)
  have HL : Hid (L.length ≤ 1048576) := Lib.hid (Nat.le_trans hL.small (by decide))
  have HQ := Lib.hid (hb.iff hL)
  clear h hL hb
  go_enter Try.func38, Try.ntmps38
  go_wp2_with fail
  refine HC.out.mono ?_
  rintro e w1 ⟨⟨v, rfl, ho⟩, hb1⟩
  have HB1 := Lib.hid hb1
  obtain ⟨A', n', c', rfl, hi⟩ := ho.ints
  have HI := Lib.hid hi
  have hn' : n' ≤ 2000000 := by have h1 := hi.1; have h2 := HL.out; omega
  clear ho hb1 hi
  go_wp2_with fail
  refine (has_of w1 w1.heap.size A' n' c' L HI.out hn' x b HQ.out).mono ?_
  rintro e w2 ⟨rfl, rfl⟩
  go_wp2
  go_ret
  exact ⟨rfl, HB1.out⟩
set_option maxRecDepth 20000 in
set_option maxHeartbeats 6400000 in
theorem sDom (w : World) (B : Nat) (A : Option Addr) (n c : Nat) (its : List It) (A2 : Option Addr) (n2 c2 : Nat) (ns : List Nd) (h : InB w B A n its A2 n2 c2 ns) (x0 : Int) (L : List Int) (hL : DomP (datN ns) (its.map It.dat) x0 L) :
    Calls Try.prog 16 #[.slice A n c, .slice A2 n2 c2, .int .i64 x0] w fun e w' => (∃ v, e = .returned v ∧ OwnI w' w.heap.size v L) ∧ Below w.heap.size w w' := by
  obtain ⟨q, hq⟩ := bool_of (IsE (datN ns) ∧ AreP (its.map It.dat))
  have HFn : Hid (∀ w1, Below w.heap.size w w1 → Calls Try.prog 47 #[.slice A n c, .slice A2 n2 c2] w1 fun e w' => e = .returned (.bool q) ∧ Below w1.heap.size w1 w') := Lib.hid fun w1 h1 => sFine w1 B A n c its A2 n2 c2 ns (h.below h1) q hq
  have HFi : Hid (∀ w1, Below w.heap.size w w1 → Calls Try.prog 25 #[.slice A n c, .int .i64 x0] w1 fun e w' => (∃ r, e = .returned (.int .i64 r) ∧ FindP (its.map It.dat) x0 r) ∧ Below w1.heap.size w1 w') := Lib.hid fun w1 h1 => sFind w1 B A n c its (h.below h1).i (h.below h1).hB h.hn x0
  have HN : Hid (q = false → L = []) := Lib.hid fun hqf => hL.no (fun hh => by rw [hq.2 hh] at hqf; cases hqf)
  have HN2 : Hid (findD (its.map It.dat) x0 = none → L = []) := Lib.hid fun hf => hL.none hf
  have HK : Hid (∀ y, y ∈ its → findD (its.map It.dat) x0 = some y.dat → ∃ hold : It → Bool, q = true → L = idL (its.filter hold) ∧ ∀ W, Below w.heap.size w W → ∀ u, u ∈ its → Calls Try.prog 49 #[.slice A2 n2 c2, .agg #[.int .i64 u.id, .slice u.A u.n u.c], .agg #[.int .i64 y.id, .slice y.A y.n y.c]] W fun e w' => (∃ z : Int, e = .returned (.int .i64 z) ∧ (z == 1) = hold u) ∧ Below W.heap.size W w') := Lib.hid fun y hy hf => by
    by_cases hqt : q = true
    · obtain ⟨he, ha⟩ := hq.1 hqt
      obtain ⟨t, ht⟩ := he.2
      refine ⟨fun u => btD t u.dat y.dat, fun _ => ⟨?_, fun W hW u hu => ?_⟩⟩
      · rw [hL.yes he ha ht, onFind_some hf]
        exact ids_fil its _
      · exact (sCmpIn w B A n c its A2 n2 c2 ns h he ha t ht W hW _ _ hu hy).mono fun _ _ ⟨h1, h2⟩ => ⟨⟨_, h1, rfl⟩, h2⟩
    · exact ⟨fun _ => false, fun h => absurd h hqt⟩
  have HX := Lib.hid h.i
  have hB := h.hB
  have hn := h.hn
  have HE0 := Lib.hid (OwnI.empty w w.heap.size (Nat.le_refl _))
  have HB0 : Hid (Below w.heap.size w (w.alloc (.cells #[] 3))) := Lib.hid ((Below.refl _ _).alloc (Nat.le_refl _) _)
  clear h hL hq
  go_enter Try.func16, Try.ntmps16
  go_wp2_with fail
  refine (HFi.out _ HB0.out).mono ?_
  rintro e w1 ⟨⟨r, rfl, hr⟩, hb1⟩
  have HB1 := Lib.hid (below_on HB0.out hb1)
  have HO1 := Lib.hid (ownI_below HE0.out hb1)
  have hfd := hr.find
  clear hb1 hr
  rcases hfd with ⟨rfl, hf⟩ | ⟨m, d, rfl, hd, -, hf⟩
  · obtain rfl := HN2.out hf
    clear hf
    go_wp2
    go_loopw [7, 9] (fun v i wr => v = .slice (some ⟨w.heap.size, 0, none⟩) 0 0 ∧ i = .int .i64 0 ∧ wr = w1) (fun _ _ _ => 0)
    case atStart => exact ⟨rfl, rfl, rfl⟩
    case round =>
      obtain ⟨rfl, rfl, rfl⟩ := hrel
      by_cases hlt : 0 < n
      · have hlt' : (0 : Int) < (n : Int) := by omega
        go_wp2
        go_ret
        exact ⟨⟨_, rfl, HO1.out⟩, HB1.out⟩
      · obtain rfl : n = 0 := by omega
        go_wp2
        go_ret
        exact ⟨⟨_, rfl, HO1.out⟩, HB1.out⟩
  · rw [List.getElem?_map] at hd
    obtain ⟨y, hy, rfl⟩ := Option.map_eq_some_iff.1 hd
    obtain ⟨hold, hH⟩ := HK.out y (mem_of_at hy) hf
    have HH := Lib.hid hH
    have HY := Lib.hid hy
    have hmn : m < n := by
      rw [← HX.out.1]
      exact (List.getElem?_eq_some_iff.1 hy).1
    clear hd hf hH hy
    go_wp2
    go_loopw [7, 9] (fun v i wr => ∃ k : Nat, k ≤ n ∧ i = .int .i64 k ∧ (0 < k → q = true) ∧ OwnI wr w.heap.size v (idL ((its.take k).filter hold)) ∧ Below w.heap.size w wr) (fun _ i _ => n - (intOf i).toNat)
    case atStart => exact ⟨0, Nat.zero_le _, rfl, fun h => by omega, HO1.out, HB1.out⟩
    case round =>
      obtain ⟨k, hk, rfl, hkq, hown, hbel⟩ := hrel
      have HKq := Lib.hid hkq
      have HO := Lib.hid hown
      have HB := Lib.hid hbel
      clear hown hkq
      by_cases hlt : k < n
      · have hlt0 : (k : Int) < (n : Int) := by omega
        have hm0' : (0 : Int) ≤ (m : Int) := by omega
        clear hbel
        go_wp2_with fail
        refine (HFn.out _ HB.out).mono ?_
        rintro e w2 ⟨rfl, hb2⟩
        have HB2 := Lib.hid (below_on HB.out hb2)
        have HO2 := Lib.hid (ownI_below HO.out hb2)
        have hbel := HB2.out
        clear hb2 hlt0
        cases q
        · obtain rfl : k = 0 := by
            rcases Nat.eq_zero_or_pos k with e | e
            · exact e
            · cases HKq.out e
          obtain rfl := HN.out (by first | rfl | trivial)
          go_wp2
          go_ret
          exact ⟨⟨_, rfl, HO2.out⟩, HB2.out⟩
        · have HC := Lib.hid (HH.out (by first | rfl | trivial)).2
          clear HO HB
          have HO := HO2
          have HB := HB2
          clear HO2 HB2
          obtain ⟨b1, off, x, rfl, hb1, hat, d0, d1, -⟩ := HX.out.at k hlt
          have hbw : b1 < w.heap.size := Nat.lt_of_lt_of_le hb1 hB
          have HAt := Lib.hid hat
          have HD := Lib.hid (And.intro d0 d1)
          have hlt' : (k : Int) < (n : Int) := by omega
          have hk0 : (0 : Int) ≤ (k : Int) := by omega
          clear d0 d1 hat
          have hmt := hmn
          obtain ⟨b2, off2, y2, hA2, hb2, hat, d0, d1, -⟩ := HX.out.at m hmt
          injection hA2 with hA2
          injection hA2 with e1 e2
          subst e1 e2
          obtain rfl : y = y2 := Option.some.inj (HY.out.symm.trans hat)
          have HAt2 := Lib.hid hat
          have HD2 := Lib.hid (And.intro d0 d1)
          have hmt' : (m : Int) < (n : Int) := by omega
          have HS : Hid (∀ w', Below w.heap.size w w' → w'.cell? ⟨b1, off + k * 2, none⟩ = some (.int .i64 x.id) ∧ w'.cell? ⟨b1, off + k * 2 + 1, none⟩ = some (.slice x.A x.n x.c) ∧ w'.cell? ⟨b1, off + m * 2, none⟩ = some (.int .i64 y.id) ∧ w'.cell? ⟨b1, off + m * 2 + 1, none⟩ = some (.slice y.A y.n y.c)) := Lib.hid fun W h => ⟨(h.cell (p := ⟨b1, off + k * 2, none⟩) hbw).trans HD.out.1, (h.cell (p := ⟨b1, off + k * 2 + 1, none⟩) hbw).trans HD.out.2, (h.cell (p := ⟨b1, off + m * 2, none⟩) hbw).trans HD2.out.1, (h.cell (p := ⟨b1, off + m * 2 + 1, none⟩) hbw).trans HD2.out.2⟩
          clear d0 d1 hat
          have f1 := (hbel.cell (p := ⟨b1, off + k * 2, none⟩) hbw).trans HD.out.1
          have HF1 := Lib.hid f1
          have HLn : Hid (((idL ((its.take k).filter hold)).length + [x.id].length) * 8 ≤ 140737488355328) := Lib.hid (by
            have h1 := fil_len its hold k
            simp only [List.length_cons, List.length_nil]
            omega)
          clear f1 hbel
          go_wp2
          have hS0 : (fun w' => w'.cell? ⟨b1, off + k * 2, none⟩ = some (.int .i64 x.id) ∧ w'.cell? ⟨b1, off + k * 2 + 1, none⟩ = some (.slice x.A x.n x.c) ∧ w'.cell? ⟨b1, off + m * 2, none⟩ = some (.int .i64 y.id) ∧ w'.cell? ⟨b1, off + m * 2 + 1, none⟩ = some (.slice y.A y.n y.c)) (World.drew w2) := HS.out _ HB.out.drew
          refine wp_region_held (S := fun w' => w'.cell? ⟨b1, off + k * 2, none⟩ = some (.int .i64 x.id) ∧ w'.cell? ⟨b1, off + k * 2 + 1, none⟩ = some (.slice x.A x.n x.c) ∧ w'.cell? ⟨b1, off + m * 2, none⟩ = some (.int .i64 y.id) ∧ w'.cell? ⟨b1, off + m * 2 + 1, none⟩ = some (.slice y.A y.n y.c)) (by kernel_rfl) ?_
          change wpAnyH _ _ _ _ _ _ _ _ (World.drew _)
          refine takeY 29 (i := 0) (v := ?v0c) rfl rfl (by kernel_rfl) (by kernel_rfl) (by kernel_rfl) (fun _ _ _ h => h) (by kernel_rfl) ?y0c hS0 ?_
          case y0c =>
            intro w' hw'; (try dsimp only at hw'); obtain ⟨x_0, x_1, y_0, y_1⟩ := hw'; go_simp; try with_reducible rfl
          simp only [Act.put, List.setIfInBounds_toArray, List.set_cons_zero, List.set_cons_succ]
          refine takeY 30 (i := 1) (v := ?v1c) rfl rfl (by kernel_rfl) (by kernel_rfl) (by kernel_rfl) (fun _ _ _ h => h) (by kernel_rfl) ?y1c hS0 ?_
          case y1c =>
            intro w' hw'; (try dsimp only at hw'); obtain ⟨x_0, x_1, y_0, y_1⟩ := hw'; go_simp; try with_reducible rfl
          simp only [Act.put, List.setIfInBounds_toArray, List.set_cons_zero, List.set_cons_succ]
          refine takeY 31 (i := 2) (v := ?v2c) rfl rfl (by kernel_rfl) (by kernel_rfl) (by kernel_rfl) (fun _ _ _ h => h) (by kernel_rfl) ?y2c hS0 ?_
          case y2c =>
            intro w' hw'; (try dsimp only at hw'); obtain ⟨x_0, x_1, y_0, y_1⟩ := hw'; go_simp; try with_reducible rfl
          simp only [Act.put, List.setIfInBounds_toArray, List.set_cons_zero, List.set_cons_succ]
          refine takeY 32 (i := 3) (v := ?v3c) rfl rfl (by kernel_rfl) (by kernel_rfl) (by kernel_rfl) (fun _ _ _ h => h) (by kernel_rfl) ?y3c hS0 ?_
          case y3c =>
            intro w' hw'; (try dsimp only at hw'); obtain ⟨x_0, x_1, y_0, y_1⟩ := hw'; go_simp; try with_reducible rfl
          simp only [Act.put, List.setIfInBounds_toArray, List.set_cons_zero, List.set_cons_succ]
          refine takeY 33 (i := 4) (v := ?v4c) rfl rfl (by kernel_rfl) (by kernel_rfl) (by kernel_rfl) (fun _ _ _ h => h) (by kernel_rfl) ?y4c hS0 ?_
          case y4c =>
            intro w' hw'; (try dsimp only at hw'); obtain ⟨x_0, x_1, y_0, y_1⟩ := hw'; go_simp; try with_reducible rfl
          simp only [Act.put, List.setIfInBounds_toArray, List.set_cons_zero, List.set_cons_succ]
          refine takeY 34 (i := 5) (v := ?v5c) rfl rfl (by kernel_rfl) (by kernel_rfl) (by kernel_rfl) (fun _ _ _ h => h) (by kernel_rfl) ?y5c hS0 ?_
          case y5c =>
            intro w' hw'; (try dsimp only at hw'); obtain ⟨x_0, x_1, y_0, y_1⟩ := hw'; go_simp; try with_reducible rfl
          simp only [Act.put, List.setIfInBounds_toArray, List.set_cons_zero, List.set_cons_succ]
          refine takeY 35 (i := 6) (v := ?v6c) rfl rfl (by kernel_rfl) (by kernel_rfl) (by kernel_rfl) (fun _ _ _ h => h) (by kernel_rfl) ?y6c hS0 ?_
          case y6c =>
            intro w' hw'; (try dsimp only at hw'); obtain ⟨x_0, x_1, y_0, y_1⟩ := hw'; go_simp; try with_reducible rfl
          simp only [Act.put, List.setIfInBounds_toArray, List.set_cons_zero, List.set_cons_succ]
          refine takeY 36 (i := 7) (v := ?v7c) rfl rfl (by kernel_rfl) (by kernel_rfl) (by kernel_rfl) (fun _ _ _ h => h) (by kernel_rfl) ?y7c hS0 ?_
          case y7c =>
            intro w' hw'; (try dsimp only at hw'); obtain ⟨x_0, x_1, y_0, y_1⟩ := hw'; go_simp; try with_reducible rfl
          simp only [Act.put, List.setIfInBounds_toArray, List.set_cons_zero, List.set_cons_succ]
          refine takeY 37 (i := 8) (v := ?v8c) rfl rfl (by kernel_rfl) (by kernel_rfl) (by kernel_rfl) (fun _ _ _ h => h) (by kernel_rfl) ?y8c hS0 ?_
          case y8c =>
            intro w' hw'; (try dsimp only at hw'); obtain ⟨x_0, x_1, y_0, y_1⟩ := hw'; go_simp; try with_reducible rfl
          simp only [Act.put, List.setIfInBounds_toArray, List.set_cons_zero, List.set_cons_succ]
          refine wpAnyH_ready (rs := [9]) (by kernel_rfl) (by simp) ?_
          refine AllReadyH.cons rfl (fun K hK => ?_) AllReadyH.nil
          go_simp; go_at_call 49; refine (HC.out _ HB.out.drew x (mem_of_at HAt.out)).mono ?_; rintro e w3 ⟨⟨z, rfl, hz⟩, hb3⟩; have HZ := Lib.hid hz; clear hz; have HB3 := Lib.hid (below_on HB.out.drew hb3); have HO3 := Lib.hid (ownI_below (ownI_below HO.out (Below.refl _ _).drew) hb3); clear hb3
          refine hK.out _ _ (HS.out _ HB3.out) (fun hS1 => ?_)
          clear hK K
          try simp only [Act.put, List.setIfInBounds_toArray, List.set_cons_zero, List.set_cons_succ]
          refine takeY 39 (i := 10) (v := ?v10c) rfl rfl (by kernel_rfl) (by kernel_rfl) (by kernel_rfl) (fun _ _ _ h => h) (by kernel_rfl) ?y10c hS1 ?_
          case y10c =>
            intro w' hw'; (try dsimp only at hw'); obtain ⟨x_0, x_1, y_0, y_1⟩ := hw'; go_simp; try with_reducible rfl
          simp only [Act.put, List.setIfInBounds_toArray, List.set_cons_zero, List.set_cons_succ]
          refine wpAnyH_done (by kernel_rfl) ?_ _
          clear hS0 hS1
          obtain ⟨zz, hzz⟩ : ∃ zz, hold x = zz := ⟨_, rfl⟩
          have hz1 : (z == 1) = zz := HZ.out.trans hzz
          have HZz := Lib.hid hzz
          clear hzz
          cases zz
          · go_wp2
            go_roundw
            case rel => exact ⟨k + 1, by omega, by go_num, fun _ => by first | rfl | trivial, by rw [fil_snoc HAt.out, HZz.out]; simpa using HO3.out, HB3.out⟩
            case measure => simp [intOf]; omega
          · have f1 := (HB3.out.cell (p := ⟨b1, off + k * 2, none⟩) hbw).trans HD.out.1
            go_wp2_with (at_builtin; refine wp_appI w3 (by rfl) (.tmp 40) (.tmp 46) (by rfl) w.heap.size _ _ (by rfl) HO3.out _ [x.id] (by rfl) 1 1 rfl (by rfl) HLn.out HB3.out.size ?_)
            intro v1 w4 hown4 hb4
            have HO4 := Lib.hid hown4
            have HB4 := Lib.hid (HB3.out.trans hb4)
            clear hown4 hb4 f1
            go_wp2
            go_roundw
            case rel => exact ⟨k + 1, by omega, by go_num, fun _ => by first | rfl | trivial, by rw [fil_snoc HAt.out, HZz.out]; exact HO4.out, HB4.out⟩
            case measure => simp [intOf]; omega
      · obtain rfl : k = n := by omega
        have HO' : Hid (OwnI wr w.heap.size u7 (idL (its.filter hold))) := Lib.hid (by have h := HO.out; rwa [take_all HX.out.1] at h)
        have hq' : q = true := HKq.out (by omega)
        obtain rfl := (HH.out hq').1
        clear hbel
        go_wp2
        go_ret
        exact ⟨⟨_, rfl, HO'.out⟩, HB.out⟩
set_option maxRecDepth 20000 in
set_option maxHeartbeats 6400000 in
theorem sSub (w : World) (B : Nat) (A : Option Addr) (n c : Nat) (its : List It) (A2 : Option Addr) (n2 c2 : Nat) (ns : List Nd) (h : InB w B A n its A2 n2 c2 ns) (x0 : Int) (L : List Int) (hL : SubP (datN ns) (its.map It.dat) x0 L) :
    Calls Try.prog 39 #[.slice A n c, .slice A2 n2 c2, .int .i64 x0] w fun e w' => (∃ v, e = .returned v ∧ OwnI w' w.heap.size v L) ∧ Below w.heap.size w w' := by
  obtain ⟨q, hq⟩ := bool_of (IsE (datN ns) ∧ AreP (its.map It.dat))
  have HFn : Hid (∀ w1, Below w.heap.size w w1 → Calls Try.prog 47 #[.slice A n c, .slice A2 n2 c2] w1 fun e w' => e = .returned (.bool q) ∧ Below w1.heap.size w1 w') := Lib.hid fun w1 h1 => sFine w1 B A n c its A2 n2 c2 ns (h.below h1) q hq
  have HFi : Hid (∀ w1, Below w.heap.size w w1 → Calls Try.prog 25 #[.slice A n c, .int .i64 x0] w1 fun e w' => (∃ r, e = .returned (.int .i64 r) ∧ FindP (its.map It.dat) x0 r) ∧ Below w1.heap.size w1 w') := Lib.hid fun w1 h1 => sFind w1 B A n c its (h.below h1).i (h.below h1).hB h.hn x0
  have HN : Hid (q = false → L = []) := Lib.hid fun hqf => hL.no (fun hh => by rw [hq.2 hh] at hqf; cases hqf)
  have HN2 : Hid (findD (its.map It.dat) x0 = none → L = []) := Lib.hid fun hf => hL.none hf
  have HK : Hid (∀ y, y ∈ its → findD (its.map It.dat) x0 = some y.dat → ∃ hold : It → Bool, q = true → L = idL (its.filter hold) ∧ ∀ W, Below w.heap.size w W → ∀ u, u ∈ its → Calls Try.prog 49 #[.slice A2 n2 c2, .agg #[.int .i64 y.id, .slice y.A y.n y.c], .agg #[.int .i64 u.id, .slice u.A u.n u.c]] W fun e w' => (∃ z : Int, e = .returned (.int .i64 z) ∧ (z == 1) = hold u) ∧ Below W.heap.size W w') := Lib.hid fun y hy hf => by
    by_cases hqt : q = true
    · obtain ⟨he, ha⟩ := hq.1 hqt
      obtain ⟨t, ht⟩ := he.2
      refine ⟨fun u => btD t y.dat u.dat, fun _ => ⟨?_, fun W hW u hu => ?_⟩⟩
      · rw [hL.yes he ha ht, onFind_some hf]
        exact ids_fil its _
      · exact (sCmpIn w B A n c its A2 n2 c2 ns h he ha t ht W hW _ _ hy hu).mono fun _ _ ⟨h1, h2⟩ => ⟨⟨_, h1, rfl⟩, h2⟩
    · exact ⟨fun _ => false, fun h => absurd h hqt⟩
  have HX := Lib.hid h.i
  have hB := h.hB
  have hn := h.hn
  have HE0 := Lib.hid (OwnI.empty w w.heap.size (Nat.le_refl _))
  have HB0 : Hid (Below w.heap.size w (w.alloc (.cells #[] 3))) := Lib.hid ((Below.refl _ _).alloc (Nat.le_refl _) _)
  clear h hL hq
  go_enter Try.func39, Try.ntmps39
  go_wp2_with fail
  refine (HFi.out _ HB0.out).mono ?_
  rintro e w1 ⟨⟨r, rfl, hr⟩, hb1⟩
  have HB1 := Lib.hid (below_on HB0.out hb1)
  have HO1 := Lib.hid (ownI_below HE0.out hb1)
  have hfd := hr.find
  clear hb1 hr
  rcases hfd with ⟨rfl, hf⟩ | ⟨m, d, rfl, hd, -, hf⟩
  · obtain rfl := HN2.out hf
    clear hf
    go_wp2
    go_loopw [7, 9] (fun v i wr => v = .slice (some ⟨w.heap.size, 0, none⟩) 0 0 ∧ i = .int .i64 0 ∧ wr = w1) (fun _ _ _ => 0)
    case atStart => exact ⟨rfl, rfl, rfl⟩
    case round =>
      obtain ⟨rfl, rfl, rfl⟩ := hrel
      by_cases hlt : 0 < n
      · have hlt' : (0 : Int) < (n : Int) := by omega
        go_wp2
        go_ret
        exact ⟨⟨_, rfl, HO1.out⟩, HB1.out⟩
      · obtain rfl : n = 0 := by omega
        go_wp2
        go_ret
        exact ⟨⟨_, rfl, HO1.out⟩, HB1.out⟩
  · rw [List.getElem?_map] at hd
    obtain ⟨y, hy, rfl⟩ := Option.map_eq_some_iff.1 hd
    obtain ⟨hold, hH⟩ := HK.out y (mem_of_at hy) hf
    have HH := Lib.hid hH
    have HY := Lib.hid hy
    have hmn : m < n := by
      rw [← HX.out.1]
      exact (List.getElem?_eq_some_iff.1 hy).1
    clear hd hf hH hy
    go_wp2
    go_loopw [7, 9] (fun v i wr => ∃ k : Nat, k ≤ n ∧ i = .int .i64 k ∧ (0 < k → q = true) ∧ OwnI wr w.heap.size v (idL ((its.take k).filter hold)) ∧ Below w.heap.size w wr) (fun _ i _ => n - (intOf i).toNat)
    case atStart => exact ⟨0, Nat.zero_le _, rfl, fun h => by omega, HO1.out, HB1.out⟩
    case round =>
      obtain ⟨k, hk, rfl, hkq, hown, hbel⟩ := hrel
      have HKq := Lib.hid hkq
      have HO := Lib.hid hown
      have HB := Lib.hid hbel
      clear hown hkq
      by_cases hlt : k < n
      · have hlt0 : (k : Int) < (n : Int) := by omega
        have hm0' : (0 : Int) ≤ (m : Int) := by omega
        clear hbel
        go_wp2_with fail
        refine (HFn.out _ HB.out).mono ?_
        rintro e w2 ⟨rfl, hb2⟩
        have HB2 := Lib.hid (below_on HB.out hb2)
        have HO2 := Lib.hid (ownI_below HO.out hb2)
        have hbel := HB2.out
        clear hb2 hlt0
        cases q
        · obtain rfl : k = 0 := by
            rcases Nat.eq_zero_or_pos k with e | e
            · exact e
            · cases HKq.out e
          obtain rfl := HN.out (by first | rfl | trivial)
          go_wp2
          go_ret
          exact ⟨⟨_, rfl, HO2.out⟩, HB2.out⟩
        · have HC := Lib.hid (HH.out (by first | rfl | trivial)).2
          clear HO HB
          have HO := HO2
          have HB := HB2
          clear HO2 HB2
          obtain ⟨b1, off, x, rfl, hb1, hat, d0, d1, -⟩ := HX.out.at k hlt
          have hbw : b1 < w.heap.size := Nat.lt_of_lt_of_le hb1 hB
          have HAt := Lib.hid hat
          have HD := Lib.hid (And.intro d0 d1)
          have hlt' : (k : Int) < (n : Int) := by omega
          have hk0 : (0 : Int) ≤ (k : Int) := by omega
          clear d0 d1 hat
          have hmt := hmn
          obtain ⟨b2, off2, y2, hA2, hb2, hat, d0, d1, -⟩ := HX.out.at m hmt
          injection hA2 with hA2
          injection hA2 with e1 e2
          subst e1 e2
          obtain rfl : y = y2 := Option.some.inj (HY.out.symm.trans hat)
          have HAt2 := Lib.hid hat
          have HD2 := Lib.hid (And.intro d0 d1)
          have hmt' : (m : Int) < (n : Int) := by omega
          have HS : Hid (∀ w', Below w.heap.size w w' → w'.cell? ⟨b1, off + k * 2, none⟩ = some (.int .i64 x.id) ∧ w'.cell? ⟨b1, off + k * 2 + 1, none⟩ = some (.slice x.A x.n x.c) ∧ w'.cell? ⟨b1, off + m * 2, none⟩ = some (.int .i64 y.id) ∧ w'.cell? ⟨b1, off + m * 2 + 1, none⟩ = some (.slice y.A y.n y.c)) := Lib.hid fun W h => ⟨(h.cell (p := ⟨b1, off + k * 2, none⟩) hbw).trans HD.out.1, (h.cell (p := ⟨b1, off + k * 2 + 1, none⟩) hbw).trans HD.out.2, (h.cell (p := ⟨b1, off + m * 2, none⟩) hbw).trans HD2.out.1, (h.cell (p := ⟨b1, off + m * 2 + 1, none⟩) hbw).trans HD2.out.2⟩
          clear d0 d1 hat
          have f1 := (hbel.cell (p := ⟨b1, off + k * 2, none⟩) hbw).trans HD.out.1
          have HF1 := Lib.hid f1
          have HLn : Hid (((idL ((its.take k).filter hold)).length + [x.id].length) * 8 ≤ 140737488355328) := Lib.hid (by
            have h1 := fil_len its hold k
            simp only [List.length_cons, List.length_nil]
            omega)
          clear f1 hbel
          go_wp2
          have hS0 : (fun w' => w'.cell? ⟨b1, off + k * 2, none⟩ = some (.int .i64 x.id) ∧ w'.cell? ⟨b1, off + k * 2 + 1, none⟩ = some (.slice x.A x.n x.c) ∧ w'.cell? ⟨b1, off + m * 2, none⟩ = some (.int .i64 y.id) ∧ w'.cell? ⟨b1, off + m * 2 + 1, none⟩ = some (.slice y.A y.n y.c)) (World.drew w2) := HS.out _ HB.out.drew
          refine wp_region_held (S := fun w' => w'.cell? ⟨b1, off + k * 2, none⟩ = some (.int .i64 x.id) ∧ w'.cell? ⟨b1, off + k * 2 + 1, none⟩ = some (.slice x.A x.n x.c) ∧ w'.cell? ⟨b1, off + m * 2, none⟩ = some (.int .i64 y.id) ∧ w'.cell? ⟨b1, off + m * 2 + 1, none⟩ = some (.slice y.A y.n y.c)) (by kernel_rfl) ?_
          change wpAnyH _ _ _ _ _ _ _ _ (World.drew _)
          refine takeY 29 (i := 0) (v := ?v0d) rfl rfl (by kernel_rfl) (by kernel_rfl) (by kernel_rfl) (fun _ _ _ h => h) (by kernel_rfl) ?y0d hS0 ?_
          case y0d =>
            intro w' hw'; (try dsimp only at hw'); obtain ⟨x_0, x_1, y_0, y_1⟩ := hw'; go_simp; try with_reducible rfl
          simp only [Act.put, List.setIfInBounds_toArray, List.set_cons_zero, List.set_cons_succ]
          refine takeY 30 (i := 1) (v := ?v1d) rfl rfl (by kernel_rfl) (by kernel_rfl) (by kernel_rfl) (fun _ _ _ h => h) (by kernel_rfl) ?y1d hS0 ?_
          case y1d =>
            intro w' hw'; (try dsimp only at hw'); obtain ⟨x_0, x_1, y_0, y_1⟩ := hw'; go_simp; try with_reducible rfl
          simp only [Act.put, List.setIfInBounds_toArray, List.set_cons_zero, List.set_cons_succ]
          refine takeY 31 (i := 2) (v := ?v2d) rfl rfl (by kernel_rfl) (by kernel_rfl) (by kernel_rfl) (fun _ _ _ h => h) (by kernel_rfl) ?y2d hS0 ?_
          case y2d =>
            intro w' hw'; (try dsimp only at hw'); obtain ⟨x_0, x_1, y_0, y_1⟩ := hw'; go_simp; try with_reducible rfl
          simp only [Act.put, List.setIfInBounds_toArray, List.set_cons_zero, List.set_cons_succ]
          refine takeY 32 (i := 3) (v := ?v3d) rfl rfl (by kernel_rfl) (by kernel_rfl) (by kernel_rfl) (fun _ _ _ h => h) (by kernel_rfl) ?y3d hS0 ?_
          case y3d =>
            intro w' hw'; (try dsimp only at hw'); obtain ⟨x_0, x_1, y_0, y_1⟩ := hw'; go_simp; try with_reducible rfl
          simp only [Act.put, List.setIfInBounds_toArray, List.set_cons_zero, List.set_cons_succ]
          refine takeY 33 (i := 4) (v := ?v4d) rfl rfl (by kernel_rfl) (by kernel_rfl) (by kernel_rfl) (fun _ _ _ h => h) (by kernel_rfl) ?y4d hS0 ?_
          case y4d =>
            intro w' hw'; (try dsimp only at hw'); obtain ⟨x_0, x_1, y_0, y_1⟩ := hw'; go_simp; try with_reducible rfl
          simp only [Act.put, List.setIfInBounds_toArray, List.set_cons_zero, List.set_cons_succ]
          refine takeY 34 (i := 5) (v := ?v5d) rfl rfl (by kernel_rfl) (by kernel_rfl) (by kernel_rfl) (fun _ _ _ h => h) (by kernel_rfl) ?y5d hS0 ?_
          case y5d =>
            intro w' hw'; (try dsimp only at hw'); obtain ⟨x_0, x_1, y_0, y_1⟩ := hw'; go_simp; try with_reducible rfl
          simp only [Act.put, List.setIfInBounds_toArray, List.set_cons_zero, List.set_cons_succ]
          refine takeY 35 (i := 6) (v := ?v6d) rfl rfl (by kernel_rfl) (by kernel_rfl) (by kernel_rfl) (fun _ _ _ h => h) (by kernel_rfl) ?y6d hS0 ?_
          case y6d =>
            intro w' hw'; (try dsimp only at hw'); obtain ⟨x_0, x_1, y_0, y_1⟩ := hw'; go_simp; try with_reducible rfl
          simp only [Act.put, List.setIfInBounds_toArray, List.set_cons_zero, List.set_cons_succ]
          refine takeY 36 (i := 7) (v := ?v7d) rfl rfl (by kernel_rfl) (by kernel_rfl) (by kernel_rfl) (fun _ _ _ h => h) (by kernel_rfl) ?y7d hS0 ?_
          case y7d =>
            intro w' hw'; (try dsimp only at hw'); obtain ⟨x_0, x_1, y_0, y_1⟩ := hw'; go_simp; try with_reducible rfl
          simp only [Act.put, List.setIfInBounds_toArray, List.set_cons_zero, List.set_cons_succ]
          refine takeY 37 (i := 8) (v := ?v8d) rfl rfl (by kernel_rfl) (by kernel_rfl) (by kernel_rfl) (fun _ _ _ h => h) (by kernel_rfl) ?y8d hS0 ?_
          case y8d =>
            intro w' hw'; (try dsimp only at hw'); obtain ⟨x_0, x_1, y_0, y_1⟩ := hw'; go_simp; try with_reducible rfl
          simp only [Act.put, List.setIfInBounds_toArray, List.set_cons_zero, List.set_cons_succ]
          refine wpAnyH_ready (rs := [9]) (by kernel_rfl) (by simp) ?_
          refine AllReadyH.cons rfl (fun K hK => ?_) AllReadyH.nil
          go_simp; go_at_call 49; refine (HC.out _ HB.out.drew x (mem_of_at HAt.out)).mono ?_; rintro e w3 ⟨⟨z, rfl, hz⟩, hb3⟩; have HZ := Lib.hid hz; clear hz; have HB3 := Lib.hid (below_on HB.out.drew hb3); have HO3 := Lib.hid (ownI_below (ownI_below HO.out (Below.refl _ _).drew) hb3); clear hb3
          refine hK.out _ _ (HS.out _ HB3.out) (fun hS1 => ?_)
          clear hK K
          try simp only [Act.put, List.setIfInBounds_toArray, List.set_cons_zero, List.set_cons_succ]
          refine takeY 39 (i := 10) (v := ?v10d) rfl rfl (by kernel_rfl) (by kernel_rfl) (by kernel_rfl) (fun _ _ _ h => h) (by kernel_rfl) ?y10d hS1 ?_
          case y10d =>
            intro w' hw'; (try dsimp only at hw'); obtain ⟨x_0, x_1, y_0, y_1⟩ := hw'; go_simp; try with_reducible rfl
          simp only [Act.put, List.setIfInBounds_toArray, List.set_cons_zero, List.set_cons_succ]
          refine wpAnyH_done (by kernel_rfl) ?_ _
          clear hS0 hS1
          obtain ⟨zz, hzz⟩ : ∃ zz, hold x = zz := ⟨_, rfl⟩
          have hz1 : (z == 1) = zz := HZ.out.trans hzz
          have HZz := Lib.hid hzz
          clear hzz
          cases zz
          · go_wp2
            go_roundw
            case rel => exact ⟨k + 1, by omega, by go_num, fun _ => by first | rfl | trivial, by rw [fil_snoc HAt.out, HZz.out]; simpa using HO3.out, HB3.out⟩
            case measure => simp [intOf]; omega
          · have f1 := (HB3.out.cell (p := ⟨b1, off + k * 2, none⟩) hbw).trans HD.out.1
            go_wp2_with (at_builtin; refine wp_appI w3 (by rfl) (.tmp 40) (.tmp 46) (by rfl) w.heap.size _ _ (by rfl) HO3.out _ [x.id] (by rfl) 1 1 rfl (by rfl) HLn.out HB3.out.size ?_)
            intro v1 w4 hown4 hb4
            have HO4 := Lib.hid hown4
            have HB4 := Lib.hid (HB3.out.trans hb4)
            clear hown4 hb4 f1
            go_wp2
            go_roundw
            case rel => exact ⟨k + 1, by omega, by go_num, fun _ => by first | rfl | trivial, by rw [fil_snoc HAt.out, HZz.out]; exact HO4.out, HB4.out⟩
            case measure => simp [intOf]; omega
      · obtain rfl : k = n := by omega
        have HO' : Hid (OwnI wr w.heap.size u7 (idL (its.filter hold))) := Lib.hid (by have h := HO.out; rwa [take_all HX.out.1] at h)
        have hq' : q = true := HKq.out (by omega)
        obtain rfl := (HH.out hq').1
        clear hbel
        go_wp2
        go_ret
        exact ⟨⟨_, rfl, HO'.out⟩, HB.out⟩
set_option maxRecDepth 20000 in
set_option maxHeartbeats 1600000 in
theorem sRankB (w : World) (B : Nat) (A : Option Addr) (n c : Nat) (its : List It) (A2 : Option Addr) (n2 c2 : Nat) (ns : List Nd) (h : InB w B A n its A2 n2 c2 ns) (x0 : Int) (L : Int) (hL : RankP (datN ns) (its.map It.dat) x0 L) :
    Calls Try.prog 18 #[.slice A n c, .slice A2 n2 c2, .int .i64 x0] w fun e w' => e = .returned (.int .i64 L) ∧ Below w.heap.size w w' := by
  obtain ⟨q, hq⟩ := bool_of (IsE (datN ns) ∧ AreP (its.map It.dat))
  have HFn : Hid (∀ w1, Below w.heap.size w w1 → Calls Try.prog 47 #[.slice A n c, .slice A2 n2 c2] w1 fun e w' => e = .returned (.bool q) ∧ Below w1.heap.size w1 w') := Lib.hid fun w1 h1 => sFine w1 B A n c its A2 n2 c2 ns (h.below h1) q hq
  have HFi : Hid (∀ w1, Below w.heap.size w w1 → Calls Try.prog 25 #[.slice A n c, .int .i64 x0] w1 fun e w' => (∃ r, e = .returned (.int .i64 r) ∧ FindP (its.map It.dat) x0 r) ∧ Below w1.heap.size w1 w') := Lib.hid fun w1 h1 => sFind w1 B A n c its (h.below h1).i (h.below h1).hB h.hn x0
  obtain ⟨D, hD⟩ := AnsP.some (datN ns) (its.map It.dat) (fun t => onFind (its.map It.dat) x0 [] fun d => idsD (domD t (its.map It.dat) d)) []
  replace hD : DomP (datN ns) (its.map It.dat) x0 D := hD
  have HDo : Hid (∀ w1, Below w.heap.size w w1 → Calls Try.prog 16 #[.slice A n c, .slice A2 n2 c2, .int .i64 x0] w1 fun e w' => (∃ v, e = .returned v ∧ OwnI w' w1.heap.size v D) ∧ Below w1.heap.size w1 w') := Lib.hid fun w1 h1 => sDom w1 B A n c its A2 n2 c2 ns (h.below h1) x0 D hD
  have HN : Hid (q = false → L = -1) := Lib.hid fun hqf => hL.no (fun hh => by rw [hq.2 hh] at hqf; cases hqf)
  have HN2 : Hid (q = true → findD (its.map It.dat) x0 = none → L = -1) := Lib.hid fun hqt hf => by
    obtain ⟨t, ht⟩ := (hq.1 hqt).1.2
    rw [hL.yes (hq.1 hqt).1 (hq.1 hqt).2 ht, onFind_none hf]
  have HY : Hid (q = true → ∀ d, findD (its.map It.dat) x0 = some d → L = D.length) := Lib.hid fun hqt d hf => rank_dom hL hD (hq.1 hqt).1 (hq.1 hqt).2 hf
  clear h hL hq hD
  go_enter Try.func18, Try.ntmps18
  go_wp2_with fail
  refine (HFn.out _ (Below.refl _ _)).mono ?_
  rintro e w1 ⟨rfl, hb1⟩
  have HB1 := Lib.hid hb1
  clear hb1
  cases q
  · obtain rfl := HN.out (by first | rfl | trivial)
    go_wp2
    go_ret
    exact ⟨rfl, HB1.out⟩
  · go_wp2_with fail
    refine (HFi.out _ HB1.out).mono ?_
    rintro e w2 ⟨⟨r, rfl, hr⟩, hb2⟩
    have HB2 := Lib.hid (below_on HB1.out hb2)
    have hfd := hr.find
    clear hb2 hr
    rcases hfd with ⟨rfl, hf⟩ | ⟨m, d, rfl, -, -, hf⟩
    · obtain rfl := HN2.out (by first | rfl | trivial) hf
      clear hf
      go_wp2
      go_ret
      exact ⟨rfl, HB2.out⟩
    · obtain rfl := HY.out (by first | rfl | trivial) d hf
      clear hf
      have hm : decide ((m : Int) < 0) = false := by simp
      go_wp2_with fail
      refine (HDo.out _ HB2.out).mono ?_
      rintro e w3 ⟨⟨v, rfl, ho⟩, hb3⟩
      have HB3 := Lib.hid (below_on HB2.out hb3)
      obtain ⟨A', n', c', rfl, hi⟩ := ho.ints
      have HL := Lib.hid hi.1
      clear ho hb3 hi
      go_wp2
      go_ret
      exact ⟨by rw [HL.out]; rfl, HB3.out⟩
set_option maxRecDepth 20000 in
set_option maxHeartbeats 6400000 in
theorem sWidth (w : World) (B : Nat) (A : Option Addr) (n c : Nat) (its : List It) (A2 : Option Addr) (n2 c2 : Nat) (ns : List Nd) (h : InB w B A n its A2 n2 c2 ns) (L : Int) (hL : WidP (datN ns) (its.map It.dat) L) :
    Calls Try.prog 22 #[.slice A n c, .slice A2 n2 c2] w fun e w' => e = .returned (.int .i64 L) ∧ Below w.heap.size w w' := by
  obtain ⟨q, hq⟩ := bool_of (IsE (datN ns) ∧ AreP (its.map It.dat))
  have HFn : Hid (∀ w1, Below w.heap.size w w1 → Calls Try.prog 47 #[.slice A n c, .slice A2 n2 c2] w1 fun e w' => e = .returned (.bool q) ∧ Below w1.heap.size w1 w') := Lib.hid fun w1 h1 => sFine w1 B A n c its A2 n2 c2 ns (h.below h1) q hq
  have HN : Hid (q = false → L = 0) := Lib.hid fun hqf => hL.no (fun hh => by rw [hq.2 hh] at hqf; cases hqf)
  have HK : Hid (q = true → ∃ lev : It → It → Bool, L = (mostL lev its its : Nat) ∧ ∀ W, Below w.heap.size w W → ∀ x y, x ∈ its → y ∈ its → Calls Try.prog 49 #[.slice A2 n2 c2, .agg #[.int .i64 x.id, .slice x.A x.n x.c], .agg #[.int .i64 y.id, .slice y.A y.n y.c]] W fun e w' => (∃ z : Int, e = .returned (.int .i64 z) ∧ (z == 2 || z == 0) = lev x y) ∧ Below W.heap.size W w') := Lib.hid fun hqt => by
    obtain ⟨he, ha⟩ := hq.1 hqt
    obtain ⟨t, ht⟩ := he.2
    refine ⟨fun x y => lvB t x.dat y.dat, ?_, fun W hW x y hx hy => ?_⟩
    · rw [hL.yes he ha ht, mostD_it]
    · exact (sCmpIn w B A n c its A2 n2 c2 ns h he ha t ht W hW x y hx hy).mono fun _ _ ⟨h1, h2⟩ => ⟨⟨_, h1, (lv_code ht _ _).symm⟩, h2⟩
  have HX := Lib.hid h.i
  have hB := h.hB
  have hn := h.hn
  clear h hL hq
  go_enter Try.func22, Try.ntmps22
  go_wp2_with fail
  refine (HFn.out _ (Below.refl _ _)).mono ?_
  rintro e w1 ⟨rfl, hb1⟩
  have HB1 := Lib.hid hb1
  clear hb1
  cases q
  · obtain rfl := HN.out (by first | rfl | trivial)
    go_wp2
    go_ret
    exact ⟨rfl, HB1.out⟩
  obtain ⟨lev, hLv, hHC⟩ := HK.out (by first | rfl | trivial)
  have HLv := Lib.hid hLv
  have HC := Lib.hid hHC
  clear hLv hHC
  go_wp2
  go_loopw [5, 6] (fun v i wr => ∃ k : Nat, k ≤ n ∧ i = .int .i64 k ∧ v = .int .i64 (mostL lev its (its.take k) : Nat) ∧ Below w.heap.size w wr) (fun _ i _ => n - (intOf i).toNat)
  case atStart => exact ⟨0, Nat.zero_le _, rfl, rfl, HB1.out⟩
  case round =>
    obtain ⟨k, hk, rfl, rfl, hbel⟩ := hrel
    have HB := Lib.hid hbel
    obtain ⟨M, hM⟩ : ∃ M, mostL lev its (its.take k) = M := ⟨_, rfl⟩
    have hM1 : M ≤ n := by rw [← hM, ← HX.out.1]; exact mostL_le _ _ _
    rw [hM]
    have HM := Lib.hid hM
    clear hM
    by_cases hlt : k < n
    · obtain ⟨b1, off, x, rfl, hb1, hat, d0, d1, -⟩ := HX.out.at k hlt
      have hbw : b1 < w.heap.size := Nat.lt_of_lt_of_le hb1 hB
      have HAt := Lib.hid hat
      have HD := Lib.hid (And.intro d0 d1)
      have hlt' : (k : Int) < (n : Int) := by omega
      have hk0 : (0 : Int) ≤ (k : Int) := by omega
      clear d0 d1 hat
      go_wp2
      go_loopw [7, 8] (fun v j wr => ∃ m : Nat, m ≤ n ∧ j = .int .i64 m ∧ v = .int .i64 (((its.take m).filter (lev x)).length : Nat) ∧ Below w.heap.size w wr) (fun _ j _ => n - (intOf j).toNat)
      case atStart => exact ⟨0, Nat.zero_le _, rfl, rfl, HB.out⟩
      case round =>
        clear hbel
        obtain ⟨m, hm, rfl, rfl, hbel⟩ := hrel
        have HBi := Lib.hid hbel
        obtain ⟨K, hK⟩ : ∃ K, ((its.take m).filter (lev x)).length = K := ⟨_, rfl⟩
        have hK1 : K ≤ m := by
          rw [← hK]
          have h1 : ((its.take m).filter (lev x)).length ≤ (its.take m).length := List.length_filter_le _ _
          rw [List.length_take] at h1
          omega
        rw [hK]
        have HKk := Lib.hid hK
        clear hK
        by_cases hmt : m < n
        · obtain ⟨b2, off2, y, hA2, hb2, hat, d0, d1, -⟩ := HX.out.at m hmt
          injection hA2 with hA2
          injection hA2 with e1 e2
          subst e1 e2
          have HAt2 := Lib.hid hat
          have HD2 := Lib.hid (And.intro d0 d1)
          have hmt' : (m : Int) < (n : Int) := by omega
          have hm0 : (0 : Int) ≤ (m : Int) := by omega
          have HS : Hid (∀ w', Below w.heap.size w w' → w'.cell? ⟨b1, off + k * 2, none⟩ = some (.int .i64 x.id) ∧ w'.cell? ⟨b1, off + k * 2 + 1, none⟩ = some (.slice x.A x.n x.c) ∧ w'.cell? ⟨b1, off + m * 2, none⟩ = some (.int .i64 y.id) ∧ w'.cell? ⟨b1, off + m * 2 + 1, none⟩ = some (.slice y.A y.n y.c)) := Lib.hid fun W h => ⟨(h.cell (p := ⟨b1, off + k * 2, none⟩) hbw).trans HD.out.1, (h.cell (p := ⟨b1, off + k * 2 + 1, none⟩) hbw).trans HD.out.2, (h.cell (p := ⟨b1, off + m * 2, none⟩) hbw).trans HD2.out.1, (h.cell (p := ⟨b1, off + m * 2 + 1, none⟩) hbw).trans HD2.out.2⟩
          clear d0 d1 hat
          go_wp2
          have hS0 : (fun w' => w'.cell? ⟨b1, off + k * 2, none⟩ = some (.int .i64 x.id) ∧ w'.cell? ⟨b1, off + k * 2 + 1, none⟩ = some (.slice x.A x.n x.c) ∧ w'.cell? ⟨b1, off + m * 2, none⟩ = some (.int .i64 y.id) ∧ w'.cell? ⟨b1, off + m * 2 + 1, none⟩ = some (.slice y.A y.n y.c)) (World.drew wr) := HS.out _ HBi.out.drew
          clear hbel
          refine wp_region_held (S := fun w' => w'.cell? ⟨b1, off + k * 2, none⟩ = some (.int .i64 x.id) ∧ w'.cell? ⟨b1, off + k * 2 + 1, none⟩ = some (.slice x.A x.n x.c) ∧ w'.cell? ⟨b1, off + m * 2, none⟩ = some (.int .i64 y.id) ∧ w'.cell? ⟨b1, off + m * 2 + 1, none⟩ = some (.slice y.A y.n y.c)) (by kernel_rfl) ?_
          change wpAnyH _ _ _ _ _ _ _ _ (World.drew _)
          refine takeY 26 (i := 0) (v := ?v0e) rfl rfl (by kernel_rfl) (by kernel_rfl) (by kernel_rfl) (fun _ _ _ h => h) (by kernel_rfl) ?y0e hS0 ?_
          case y0e =>
            intro w' hw'; (try dsimp only at hw'); obtain ⟨x_0, x_1, y_0, y_1⟩ := hw'; go_simp; try with_reducible rfl
          simp only [Act.put, List.setIfInBounds_toArray, List.set_cons_zero, List.set_cons_succ]
          refine takeY 27 (i := 1) (v := ?v1e) rfl rfl (by kernel_rfl) (by kernel_rfl) (by kernel_rfl) (fun _ _ _ h => h) (by kernel_rfl) ?y1e hS0 ?_
          case y1e =>
            intro w' hw'; (try dsimp only at hw'); obtain ⟨x_0, x_1, y_0, y_1⟩ := hw'; go_simp; try with_reducible rfl
          simp only [Act.put, List.setIfInBounds_toArray, List.set_cons_zero, List.set_cons_succ]
          refine takeY 28 (i := 2) (v := ?v2e) rfl rfl (by kernel_rfl) (by kernel_rfl) (by kernel_rfl) (fun _ _ _ h => h) (by kernel_rfl) ?y2e hS0 ?_
          case y2e =>
            intro w' hw'; (try dsimp only at hw'); obtain ⟨x_0, x_1, y_0, y_1⟩ := hw'; go_simp; try with_reducible rfl
          simp only [Act.put, List.setIfInBounds_toArray, List.set_cons_zero, List.set_cons_succ]
          refine takeY 29 (i := 3) (v := ?v3e) rfl rfl (by kernel_rfl) (by kernel_rfl) (by kernel_rfl) (fun _ _ _ h => h) (by kernel_rfl) ?y3e hS0 ?_
          case y3e =>
            intro w' hw'; (try dsimp only at hw'); obtain ⟨x_0, x_1, y_0, y_1⟩ := hw'; go_simp; try with_reducible rfl
          simp only [Act.put, List.setIfInBounds_toArray, List.set_cons_zero, List.set_cons_succ]
          refine takeY 30 (i := 4) (v := ?v4e) rfl rfl (by kernel_rfl) (by kernel_rfl) (by kernel_rfl) (fun _ _ _ h => h) (by kernel_rfl) ?y4e hS0 ?_
          case y4e =>
            intro w' hw'; (try dsimp only at hw'); obtain ⟨x_0, x_1, y_0, y_1⟩ := hw'; go_simp; try with_reducible rfl
          simp only [Act.put, List.setIfInBounds_toArray, List.set_cons_zero, List.set_cons_succ]
          refine takeY 31 (i := 5) (v := ?v5e) rfl rfl (by kernel_rfl) (by kernel_rfl) (by kernel_rfl) (fun _ _ _ h => h) (by kernel_rfl) ?y5e hS0 ?_
          case y5e =>
            intro w' hw'; (try dsimp only at hw'); obtain ⟨x_0, x_1, y_0, y_1⟩ := hw'; go_simp; try with_reducible rfl
          simp only [Act.put, List.setIfInBounds_toArray, List.set_cons_zero, List.set_cons_succ]
          refine takeY 32 (i := 6) (v := ?v6e) rfl rfl (by kernel_rfl) (by kernel_rfl) (by kernel_rfl) (fun _ _ _ h => h) (by kernel_rfl) ?y6e hS0 ?_
          case y6e =>
            intro w' hw'; (try dsimp only at hw'); obtain ⟨x_0, x_1, y_0, y_1⟩ := hw'; go_simp; try with_reducible rfl
          simp only [Act.put, List.setIfInBounds_toArray, List.set_cons_zero, List.set_cons_succ]
          refine takeY 33 (i := 7) (v := ?v7e) rfl rfl (by kernel_rfl) (by kernel_rfl) (by kernel_rfl) (fun _ _ _ h => h) (by kernel_rfl) ?y7e hS0 ?_
          case y7e =>
            intro w' hw'; (try dsimp only at hw'); obtain ⟨x_0, x_1, y_0, y_1⟩ := hw'; go_simp; try with_reducible rfl
          simp only [Act.put, List.setIfInBounds_toArray, List.set_cons_zero, List.set_cons_succ]
          refine takeY 34 (i := 8) (v := ?v8e) rfl rfl (by kernel_rfl) (by kernel_rfl) (by kernel_rfl) (fun _ _ _ h => h) (by kernel_rfl) ?y8e hS0 ?_
          case y8e =>
            intro w' hw'; (try dsimp only at hw'); obtain ⟨x_0, x_1, y_0, y_1⟩ := hw'; go_simp; try with_reducible rfl
          simp only [Act.put, List.setIfInBounds_toArray, List.set_cons_zero, List.set_cons_succ]
          refine wpAnyH_ready (rs := [9]) (by kernel_rfl) (by simp) ?_
          refine AllReadyH.cons rfl (fun K hK => ?_) AllReadyH.nil
          go_simp; go_at_call 49; refine (HC.out _ HBi.out.drew x y (mem_of_at HAt.out) (mem_of_at HAt2.out)).mono ?_; rintro e w3 ⟨⟨z, rfl, hz⟩, hb3⟩; have HZ := Lib.hid hz; clear hz; have HB3 := Lib.hid (below_on HBi.out.drew hb3); clear hb3
          refine hK.out _ _ (HS.out _ HB3.out) (fun hS1 => ?_)
          clear hK K
          try simp only [Act.put, List.setIfInBounds_toArray, List.set_cons_zero, List.set_cons_succ]
          refine takeY 9 (i := 10) (v := ?v10e) rfl rfl (by kernel_rfl) (by kernel_rfl) (by kernel_rfl) (fun _ _ _ h => h) (by kernel_rfl) ?y10e hS1 ?_
          case y10e =>
            intro w' hw'; (try dsimp only at hw'); obtain ⟨x_0, x_1, y_0, y_1⟩ := hw'; go_simp; try with_reducible rfl
          simp only [Act.put, List.setIfInBounds_toArray, List.set_cons_zero, List.set_cons_succ]
          refine wpAnyH_done (by kernel_rfl) ?_ _
          clear hS0 hS1
          by_cases h2 : z = 2
          · subst h2
            have hl : lev x y = true := HZ.out.symm
            have HLx := Lib.hid hl
            clear hl
            go_wp2
            go_roundw
            case rel => exact ⟨m + 1, by omega, by go_num, by rw [flt_snoc HAt2.out, HLx.out, HKk.out]; go_num, HB3.out⟩
            case measure => simp [intOf]; omega
          by_cases h0 : z = 0
          · subst h0
            clear h2
            have hl : lev x y = true := HZ.out.symm
            have HLx := Lib.hid hl
            clear hl
            go_wp2
            go_roundw
            case rel => exact ⟨m + 1, by omega, by go_num, by rw [flt_snoc HAt2.out, HLx.out, HKk.out]; go_num, HB3.out⟩
            case measure => simp [intOf]; omega
          have e2 : (z == 2) = false := by simpa using h2
          have e0 : (z == 0) = false := by simpa using h0
          have hl : lev x y = false := by rw [← HZ.out, e2, e0]; rfl
          have HLx := Lib.hid hl
          clear hl h2 h0
          go_wp2
          go_roundw
          case rel => exact ⟨m + 1, by omega, by go_num, by rw [flt_snoc HAt2.out, HLx.out, HKk.out]; rfl, HB3.out⟩
          case measure => simp [intOf]; omega
        · obtain rfl : m = n := by omega
          have hKf : (its.filter (lev x)).length = K := by have h := HKk.out; rwa [take_all HX.out.1] at h
          have HMx : Hid (mostL lev its (its.take (k + 1)) = max M K) := Lib.hid (by rw [take_at HAt.out, mostL_snoc, HM.out, hKf])
          clear hbel hKf
          go_wp2
          go_roundw
          case rel => exact ⟨k + 1, by omega, by go_num, by rw [HMx.out]; congr 1; omega, HBi.out⟩
          case measure => simp [intOf]; omega
    · obtain rfl : k = n := by omega
      have hML : L = (M : Nat) := by rw [HLv.out, ← HM.out, take_all HX.out.1]
      subst hML
      clear hbel
      go_wp2
      go_ret
      exact ⟨rfl, HB.out⟩
end Go.Proofs.Ytadjoiahllekdaa.num
namespace Go.Proofs.Ytadjoiahllekdaa.num
set_option maxRecDepth 20000
open Go.RowKit
set_option linter.unusedVariables false
set_option linter.unusedSimpArgs false

def zC (j : Nat) : Value := (#[.int .i64 0, .slice none 0 0, .pointer none] : Array Value)[j % 3]!
def ctCell (p : Nat) (l : List It) (j : Nat) : Value := cellG (ctCells p) zC l j
theorem make_ct (n : Nat) (hn : n ≤ 1048576) (w : World) :
    (Instr.makeSlice 52 (.int .i64 (n : Int)) (.int .i64 (n : Int))).run Try.prog w = .ok (.slice (some ⟨w.heap.size, 0, none⟩) n n) (w.alloc (.cells (madeCells #[.int .i64 0, .slice none 0 0, .pointer none] (n * 3)) 61)) := by
  obtain ⟨i, hi, hzz⟩ := Option.map_eq_some_iff.1 info_ct
  simp only [Prod.mk.injEq] at hzz
  obtain ⟨hz, hs, hb⟩ := hzz
  have hr := run_make (P := Try.prog) w _ _ i _ Try.underlying52 hi hz .i64 .i64 n n (by omega) (Int.le_refl _) (by rw [hb]; omega) (by omega)
  rw [hs] at hr
  simp only [Int.toNat_natCast] at hr
  exact hr
theorem made_ct (w : World) (n p : Nat) : (w.alloc (.cells (madeCells #[.int .i64 0, .slice none 0 0, .pointer none] (n * 3)) 61)).rowIs w.heap.size 61 (n * 3) (ctCell p []) :=
  ⟨_, heap_alloc_new w _, size_madeCells _ _, fun i hi => by simp [madeCells, hi, ctCell, cellG, zC]⟩
theorem ctCell_snoc {p : Nat} {l : List It} {k : Nat} (h : l.length = k) (x : It) (j : Nat) :
    (if j = k * 3 + 2 then .pointer (some ⟨p, 0, none⟩) else if j = k * 3 + 1 then .slice x.A x.n x.c else if j = k * 3 then .int .i64 x.id else ctCell p l j) = ctCell p (l ++ [x]) j := by
  have e : ∀ i v, (ctCells p x)[i]? = some v → ctCell p (l ++ [x]) (k * 3 + i) = v := fun i v hv => cellG_last (ctCells_len p) zC h x hv
  by_cases h2 : j = k * 3 + 2
  · subst h2; rw [if_pos rfl, e 2 _ rfl]
  rw [if_neg h2]
  by_cases h1 : j = k * 3 + 1
  · subst h1; rw [if_pos rfl, e 1 _ rfl]
  rw [if_neg h1]
  by_cases h0 : j = k * 3
  · subst h0; rw [if_pos rfl]; exact (e 0 _ rfl).symm
  rw [if_neg h0]
  exact (cellG_more (ctCells_len p) zC h x (by omega)).symm
theorem ctCell_zero {p : Nat} {l : List It} {k : Nat} (h : l.length = k) : ctCell p l (k * 3) = .int .i64 0 ∧ ctCell p l (k * 3 + 1) = .slice none 0 0 ∧ ctCell p l (k * 3 + 2) = .pointer none := by
  refine ⟨?_, ?_, ?_⟩
  · rw [ctCell, cellG_none (ctCells_len p) zC (by omega)]; unfold zC; rw [show k * 3 % 3 = 0 by omega]; rfl
  · rw [ctCell, cellG_none (ctCells_len p) zC (by omega)]; unfold zC; rw [show (k * 3 + 1) % 3 = 1 by omega]; rfl
  · rw [ctCell, cellG_none (ctCells_len p) zC (by omega)]; unfold zC; rw [show (k * 3 + 2) % 3 = 2 by omega]; rfl
/-- What contestOf hands back. -/
def ContOut (B lo : Nat) (nds : List ND) (its : List It) (n : Nat) (e : Ending) (w' : World) : Prop :=
  (∃ (t : Tr) (p g : Nat), IsE nds ∧ AreP (its.map It.dat) ∧ Post nds t ∧ e = .returned (.slice (some ⟨g, 0, none⟩) n n) ∧ CtIn w' B lo p t (some ⟨g, 0, none⟩) n its) ∨ (¬ (IsE nds ∧ AreP (its.map It.dat)) ∧ e = .returned (.slice none 0 0))
set_option maxRecDepth 20000 in
set_option maxHeartbeats 1600000 in
theorem iContest (w : World) (B : Nat) (A : Option Addr) (n c : Nat) (its : List It) (A2 : Option Addr) (n2 c2 : Nat) (ns : List Nd) (h : InB w B A n its A2 n2 c2 ns) :
    Calls Try.prog 41 #[.slice A n c, .slice A2 n2 c2] w fun e w' => ContOut B w.heap.size (datN ns) its n e w' ∧ Below w.heap.size w w' := by
  have HT := Lib.hid (iTreeOfW w B A2 n2 c2 ns h.e h.hB h.hnc h.hc h.se)
  obtain ⟨qa, hqa⟩ := bool_of (AreP (its.map It.dat))
  have HA : Hid (∀ w1, Below w.heap.size w w1 → Calls Try.prog 69 #[.slice A n c] w1 fun e w' => e = .returned (.bool qa) ∧ Below w1.heap.size w1 w') := Lib.hid fun w1 h1 => iAre w1 B A n c its (h.below h1).i (h.below h1).hB qa hqa
  have HX := Lib.hid h.i
  have hB := h.hB
  have hn := h.hn
  have HQ := Lib.hid hqa
  generalize datN ns = nds at *
  clear h hqa
  go_enter Try.func41, Try.ntmps41
  go_wp2_with fail
  refine HT.out.mono ?_
  rintro e w1 ⟨hout, hb1⟩
  have HB1 := Lib.hid hb1
  clear hb1 HT
  rcases hout with ⟨he, t, p, ht, rfl, hpa⟩ | ⟨he, rfl⟩
  · have HE := Lib.hid he
    have HPo := Lib.hid ht
    have HPa := Lib.hid hpa
    clear he ht hpa
    go_wp2_with fail
    refine (HA.out _ HB1.out).mono ?_
    rintro e w2 ⟨rfl, hb2⟩
    have HB2 := Lib.hid (below_on HB1.out hb2)
    have HPa2 := Lib.hid (HPa.out.below (Nat.le_trans hB HB1.out.size) hb2)
    clear hb2 HPa
    cases qa
    · go_wp2
      go_ret
      exact ⟨.inr ⟨(fun hh => by have := HQ.out.2 hh.2; cases this), rfl⟩, HB2.out⟩
    · have HAr : Hid (AreP (its.map It.dat)) := Lib.hid (HQ.out.1 (by first | rfl | trivial))
      have hmk := make_ct n hn
      go_wp2
      clear hmk
      obtain ⟨g, hg⟩ : ∃ g, g = w2.heap.size := ⟨_, rfl⟩
      have HR0 : Hid ((w2.alloc (.cells (madeCells #[.int .i64 0, .slice none 0 0, .pointer none] (n * 3)) 61)).rowIs g 61 (n * 3) (ctCell p (its.take 0))) := Lib.hid (hg ▸ made_ct w2 n p)
      have HW0 : Hid (Below w2.heap.size w2 (w2.alloc (.cells (madeCells #[.int .i64 0, .slice none 0 0, .pointer none] (n * 3)) 61))) := Lib.hid ((Below.refl _ _).alloc (Nat.le_refl _) _)
      rw [← hg]
      generalize (w2.alloc (.cells (madeCells #[.int .i64 0, .slice none 0 0, .pointer none] (n * 3)) 61)) = w3 at *
      have HG := Lib.hid hg
      clear hg
      go_loopw [23] (fun i wr => ∃ k : Nat, k ≤ n ∧ i = .int .i64 k ∧ wr.rowIs g 61 (n * 3) (ctCell p (its.take k)) ∧ Below w2.heap.size w2 wr) (fun i _ => n - (intOf i).toNat)
      case atStart => exact ⟨0, Nat.zero_le _, rfl, HR0.out, HW0.out⟩
      case round =>
        obtain ⟨k, hk, rfl, hrow, hbel⟩ := hrel
        have HR := Lib.hid hrow
        have HB := Lib.hid hbel
        by_cases hlt : k < n
        · obtain ⟨b1, off, x, rfl, hb1, hat, d0, d1, -⟩ := HX.out.at k hlt
          have hbw : b1 < w2.heap.size := Nat.lt_of_lt_of_le hb1 (Nat.le_trans hB HB2.out.size)
          have f0 := (hbel.cell (p := ⟨b1, off + k * 2, none⟩) hbw).trans ((HB2.out.cell (p := ⟨b1, off + k * 2, none⟩) (Nat.lt_of_lt_of_le hb1 hB)).trans d0)
          have f1 := (hbel.cell (p := ⟨b1, off + k * 2 + 1, none⟩) hbw).trans ((HB2.out.cell (p := ⟨b1, off + k * 2 + 1, none⟩) (Nat.lt_of_lt_of_le hb1 hB)).trans d1)
          have HAt := Lib.hid hat
          have hlk : (its.take k).length = k := by rw [List.length_take, HX.out.1]; omega
          have hz := ctCell_zero (p := p) hlk
          have g0 : wr.cell? ⟨g, k * 3, none⟩ = some (.int .i64 0) := by rw [World.rowIs.cell hrow (by omega), hz.1]
          have g1 : wr.cell? ⟨g, k * 3 + 1, none⟩ = some (.slice none 0 0) := by rw [World.rowIs.cell hrow (by omega), hz.2.1]
          have g2 : wr.cell? ⟨g, k * 3 + 2, none⟩ = some (.pointer none) := by rw [World.rowIs.cell hrow (by omega), hz.2.2]
          have z0 := World.rowIs.frozen hrow (k * 3)
          have z1 := World.rowIs.frozen hrow (k * 3 + 1)
          have z2 := World.rowIs.frozen hrow (k * 3 + 2)
          have hgl := World.rowIs.lt hrow
          have HLk := Lib.hid hlk
          have hsz := Lib.hid hbel.size
          clear hrow hbel d0 d1 hat hlk hz
          go_wp2
          go_roundw
          case rel =>
            refine ⟨k + 1, by omega, by go_num, ?_, ?_⟩
            · rw [take_at HAt.out]
              exact (World.rowIs.alloc (World.rowIs.set (World.rowIs.set (World.rowIs.set HR.out (k * 3) (.int .i64 x.id)) (k * 3 + 1) (.slice x.A x.n x.c)) (k * 3 + 2) (.pointer (some ⟨p, 0, none⟩))) _).congr (fun j _ => ctCell_snoc HLk.out x j)
            · exact (((HB.out.setCell (by rw [HG.out]; exact Nat.le_refl _) _).setCell (by rw [HG.out]; exact Nat.le_refl _) _).setCell (by rw [HG.out]; exact Nat.le_refl _) _).alloc (by simp [World.setCell]; exact hsz.out) _
          case measure => simp [intOf]; omega
        · obtain rfl : k = n := by omega
          clear hrow hbel
          go_wp2
          go_ret
          have HBw := HB2.out.trans (HB.out.mono HB2.out.size)
          refine ⟨.inl ⟨t, p, g, HE.out, HAr.out, HPo.out, rfl, ?_⟩, HBw⟩
          have hR := HR.out
          rw [take_all HX.out.1] at hR
          have hown : OwnG 61 (ctCells p) 3 wr g (.slice (some ⟨g, 0, none⟩) k k) its := OwnG.of_row (ctCells_len p) (Nat.le_refl _) HX.out.1 (Nat.le_refl _) (by unfold maxLen; omega) hR fun j hj => cellG_own (ctCells_len p) zC HX.out.1 hj
          exact ⟨OwnG.read (ctCells_len p) hown, fun u hu => ⟨(HX.out.mem hu).below (HBw.mono hB), HAr.out.1 _ (List.mem_map_of_mem hu)⟩, HPa2.out.below (Nat.le_trans hB HB2.out.size) HB.out, Nat.le_trans hB HBw.size⟩
  · have HE := Lib.hid he
    clear he
    go_wp2
    go_ret
    exact ⟨.inr ⟨fun hh => HE.out hh.1, rfl⟩, HB1.out⟩
/-! The functions. -/
theorem three_set {w : World} {g : Nat} {T : TypeId} {u0 u1 u2 v0 v1 v2 : Value} (h : w.heap[g]? = some (.cells #[u0, u1, u2] T (0, 0))) : (((w.setCell ⟨g, 0, none⟩ v0).setCell ⟨g, 1, none⟩ v1).setCell ⟨g, 2, none⟩ v2).heap[g]? = some (.cells #[v0, v1, v2] T (0, 0)) := by
  have h := heap_setCell_same _ g 2 _ _ v2 (heap_setCell_same _ g 1 _ _ v1 (heap_setCell_same w g 0 _ _ v0 h))
  simpa using h
theorem block_alloc {w : World} {g : Nat} {o : Obj} (h : w.heap[g]? = some o) (o2 : Obj) : (w.alloc o2).heap[g]? = some o := (Below.heap_alloc _ _ _ (lt_of_block h)).trans h
set_option maxRecDepth 20000 in
set_option maxHeartbeats 1600000 in
theorem ctFind (w : World) (p : Nat) (A : Option Addr) (n c : Nat) (its : List It) (h : ReadG (ctCells p) 3 w w.heap.size A n its) (hn : n ≤ 1048576) (x0 : Int) :
    Calls Try.prog 45 #[.slice A n c, .int .i64 x0] w fun e w' => ((∃ x, x ∈ its ∧ findD (its.map It.dat) x0 = some x.dat ∧ e = .returned (.tuple #[.agg #[.int .i64 x.id, .slice x.A x.n x.c, .pointer (some ⟨p, 0, none⟩)], .bool true])) ∨ (findD (its.map It.dat) x0 = none ∧ e = .returned (.tuple #[.agg #[.int .i64 0, .slice none 0 0, .pointer none], .bool false]))) ∧ Below w.heap.size w w' := by
  have HX := Lib.hid h
  have HR0 : Hid ((w.alloc (.cells #[.int .i64 0, .slice none 0 0, .pointer none] 61)).heap[w.heap.size]? = some (.cells #[.int .i64 0, .slice none 0 0, .pointer none] 61 (0, 0))) := Lib.hid (heap_alloc_new w _)
  have HB0 : Hid (Below w.heap.size w (w.alloc (.cells #[.int .i64 0, .slice none 0 0, .pointer none] 61))) := Lib.hid ((Below.refl _ w).alloc (Nat.le_refl _) _)
  clear h
  go_enter Try.func45, Try.ntmps45
  go_wp2
  go_loopw [10] (fun i wr => ∃ k : Nat, k ≤ n ∧ i = .int .i64 k ∧ (∀ u ∈ its.take k, u.id ≠ x0) ∧ wr.heap[w.heap.size]? = some (.cells #[.int .i64 0, .slice none 0 0, .pointer none] 61 (0, 0)) ∧ Below w.heap.size w wr) (fun i _ => n - (intOf i).toNat)
  case atStart => exact ⟨0, Nat.zero_le _, rfl, by simp, HR0.out, HB0.out⟩
  case round =>
    obtain ⟨k, hk, rfl, hall, hrow, hbel⟩ := hrel
    have HA := Lib.hid hall
    have HB := Lib.hid hbel
    have HR := Lib.hid hrow
    have hsz := Lib.hid hbel.size
    have g0 : wr.cell? ⟨w.heap.size, 0, none⟩ = some (.int .i64 0) := cell_of_row wr _ 0 _ _ (0, 0) hrow
    have g1 : wr.cell? ⟨w.heap.size, 1, none⟩ = some (.slice none 0 0) := cell_of_row wr _ 1 _ _ (0, 0) hrow
    have g2 : wr.cell? ⟨w.heap.size, 2, none⟩ = some (.pointer none) := cell_of_row wr _ 2 _ _ (0, 0) hrow
    have z0 : wr.frozen? ⟨w.heap.size, 0, none⟩ = false := frozen_of_row wr _ 0 _ _ hrow
    have z1 : wr.frozen? ⟨w.heap.size, 1, none⟩ = false := frozen_of_row wr _ 1 _ _ hrow
    have z2 : wr.frozen? ⟨w.heap.size, 2, none⟩ = false := frozen_of_row wr _ 2 _ _ hrow
    have hgl := lt_of_block hrow
    clear hall hrow
    by_cases hlt : k < n
    · obtain ⟨b, off, x, rfl, hb, hat, d0, d1, d2⟩ := ct_at HX.out k hlt
      have f0 := (hbel.cell (p := ⟨b, off + k * 3, none⟩) hb).trans d0
      have f1 := (hbel.cell (p := ⟨b, off + k * 3 + 1, none⟩) hb).trans d1
      have f2 := (hbel.cell (p := ⟨b, off + k * 3 + 2, none⟩) hb).trans d2
      have HAt := Lib.hid hat
      have hlt' : (k : Int) < (n : Int) := by omega
      clear d0 d1 d2 hat hbel
      by_cases he : x.id = x0
      · have he' : (x.id == x0) = true := by simpa using he
        have HE := Lib.hid he
        have HF : Hid (findD (its.map It.dat) x0 = some x.dat) := Lib.hid (findD_yes (k := k) (by rw [List.getElem?_map, HAt.out]; rfl) he fun u hu => by
          rw [← List.map_take] at hu
          obtain ⟨v, hv, rfl⟩ := List.mem_map.1 hu
          exact HA.out v hv)
        clear he
        go_wp2
        refine bodyPost_ret_by (results_row_tmp rfl _ _ w.heap.size 61 #[.int .i64 x.id, .slice x.A x.n x.c, .pointer (some ⟨p, 0, none⟩)] (0, 0) _ rfl (by first | exact three_set (block_alloc HR.out _) | exact block_alloc (three_set HR.out) _) Try.underlying61 rfl (by kernel_rfl)) rfl ?_
        exact ⟨.inl ⟨x, mem_of_at HAt.out, HF.out, rfl⟩, by first | exact (((HB.out.alloc hsz.out _).setCell (Nat.le_refl _) _).setCell (Nat.le_refl _) _).setCell (Nat.le_refl _) _ | exact (((HB.out.setCell (Nat.le_refl _) _).setCell (Nat.le_refl _) _).setCell (Nat.le_refl _) _).alloc (by simp [World.setCell]; exact hsz.out) _⟩
      · have he' : (x.id == x0) = false := by simpa using he
        have HE := Lib.hid he
        clear he
        go_wp2
        go_roundw
        case rel => exact ⟨k + 1, by omega, by go_num, ne_step HAt.out HA.out HE.out, block_alloc HR.out _, HB.out.alloc hsz.out _⟩
        case measure => simp [intOf]; omega
    · obtain rfl : k = n := by omega
      have HF : Hid (findD (its.map It.dat) x0 = none) := Lib.hid (findD_no fun d hd => by
        obtain ⟨u, hu, rfl⟩ := List.mem_map.1 hd
        have h := HA.out
        rw [take_all HX.out.len] at h
        exact h u hu)
      clear hbel
      go_wp2
      refine bodyPost_ret_by (results_row_tmp rfl _ _ w.heap.size 61 #[.int .i64 0, .slice none 0 0, .pointer none] (0, 0) _ rfl (three_set HR.out) Try.underlying61 rfl (by kernel_rfl)) rfl ?_
      exact ⟨.inr ⟨HF.out, rfl⟩, ((HB.out.setCell (Nat.le_refl _) _).setCell (Nat.le_refl _) _).setCell (Nat.le_refl _) _⟩
set_option maxRecDepth 20000 in
set_option maxHeartbeats 1600000 in
theorem iBest (w : World) (B : Nat) (A : Option Addr) (n c : Nat) (its : List It) (A2 : Option Addr) (n2 c2 : Nat) (ns : List Nd) (h : InB w B A n its A2 n2 c2 ns) (L : List Int) (hL : BestP (datN ns) (its.map It.dat) L) :
    Calls Try.prog 12 #[.slice A n c, .slice A2 n2 c2] w fun e w' => (∃ v, e = .returned v ∧ OwnI w' w.heap.size v L) ∧ Below w.heap.size w w' := by
  have HC := Lib.hid (iContest w B A n c its A2 n2 c2 ns h)
  have HX := Lib.hid h.i
  have hn := h.hn
  have HL := Lib.hid hL
  clear h hL
  go_enter Try.func12, Try.ntmps12
  go_wp2_with fail
  refine HC.out.mono ?_
  rintro e w1 ⟨hout, hb1⟩
  have HB1 := Lib.hid hb1
  clear hb1 HC
  rcases hout with ⟨t, p, g, he, ha, ht, rfl, hct⟩ | ⟨hno, rfl⟩
  · have HLe : Hid (L = idL (its.filter fun u => bestB t (its.map It.dat) u.dat)) := Lib.hid (by rw [HL.out.yes he ha ht]; exact ids_fil its _)
    have HCt := Lib.hid hct
    clear he ha ht hct
    go_wp2_with fail
    refine (ctWhere w1 p _ n n its HCt.out.r (by omega) _ (.inr (.inr (.inr rfl))) _ (fun u => bestB t (its.map It.dat) u.dat) (fun W hW u hu => iBestOf W B w.heap.size p t _ n n its (HCt.out.step hW) hn u ((HCt.out.step hW).x u hu).1 (HCt.out.x u hu).2)).mono ?_
    rintro e w2 ⟨⟨v2, rfl, ho⟩, hb2⟩
    have HB2 := Lib.hid (below_on HB1.out hb2)
    have hle : (its.filter fun u => bestB t (its.map It.dat) u.dat).length ≤ 1048576 := Nat.le_trans (List.length_filter_le _ _) (by first | simp | (rw [HX.out.1]; exact hn))
    obtain ⟨Aw, cw, rfl, -, -⟩ := ho.shape
    have HOw := Lib.hid ho
    clear ho hb2
    have hrd := OwnG.read (ctCells_len p) HOw.out
    have HRd := Lib.hid hrd
    clear hrd
    go_wp2_with fail
    refine (ctIds w2 p Aw _ cw _ HRd.out hle).mono ?_
    rintro e w3 ⟨⟨v, rfl, ho⟩, hb3⟩
    have HB3 := Lib.hid (below_on HB2.out hb3)
    have HI := Lib.hid (ownI_lower ho HB2.out.size)
    clear ho hb3 hle
    go_wp2
    go_ret
    exact ⟨⟨_, rfl, by rw [HLe.out]; exact HI.out⟩, HB3.out⟩
  · obtain rfl := HL.out.no hno
    clear hno
    go_wp2_with fail
    refine (ctWhere w1 0 none 0 0 ([] : List It) (ReadG.nil _ _ _) (by omega) _ (.inr (.inr (.inr rfl))) _ (fun u => false) (fun W hW u hu => absurd hu (by simp))).mono ?_
    rintro e w2 ⟨⟨v2, rfl, ho⟩, hb2⟩
    have HB2 := Lib.hid (below_on HB1.out hb2)
    have hle : (([] : List It).filter fun u => false).length ≤ 1048576 := Nat.le_trans (List.length_filter_le _ _) (by first | simp | (rw [HX.out.1]; exact hn))
    obtain ⟨Aw, cw, rfl, -, -⟩ := ho.shape
    have HOw := Lib.hid ho
    clear ho hb2
    have hrd := OwnG.read (ctCells_len 0) HOw.out
    have HRd := Lib.hid hrd
    clear hrd
    go_wp2_with fail
    refine (ctIds w2 0 Aw _ cw _ HRd.out hle).mono ?_
    rintro e w3 ⟨⟨v, rfl, ho⟩, hb3⟩
    have HB3 := Lib.hid (below_on HB2.out hb3)
    have HI := Lib.hid (ownI_lower ho HB2.out.size)
    clear ho hb3 hle
    go_wp2
    go_ret
    exact ⟨⟨_, rfl, HI.out⟩, HB3.out⟩
set_option maxRecDepth 20000 in
theorem iIsBest (w : World) (B : Nat) (A : Option Addr) (n c : Nat) (its : List It) (A2 : Option Addr) (n2 c2 : Nat) (ns : List Nd) (h : InB w B A n its A2 n2 c2 ns) (x : Int) (b : Bool) (hb : IsBP (datN ns) (its.map It.dat) x b) :
    Calls Try.prog 19 #[.slice A n c, .slice A2 n2 c2, .int .i64 x] w fun e w' => e = .returned (.bool b) ∧ Below w.heap.size w w' := by
  obtain ⟨L, hL⟩ := AnsP.some (datN ns) (its.map It.dat) (fun t => idsD (bestD t (its.map It.dat))) []
  replace hL : BestP (datN ns) (its.map It.dat) L := hL
  have HC := Lib.hid (iBest w B A n c its A2 n2 c2 ns h L hL)
  have HL : Hid (L.length ≤ 1048576) := Lib.hid (Nat.le_trans hL.small (by decide))
  have HQ := Lib.hid (hb.iff hL)
  clear h hL hb
  go_enter Try.func19, Try.ntmps19
  go_wp2_with fail
  refine HC.out.mono ?_
  rintro e w1 ⟨⟨v, rfl, ho⟩, hb1⟩
  have HB1 := Lib.hid hb1
  obtain ⟨A', n', c', rfl, hi⟩ := ho.ints
  have HI := Lib.hid hi
  have hn' : n' ≤ 1048576 := by have h1 := hi.1; have h2 := HL.out; omega
  clear ho hb1 hi
  go_wp2_with fail
  refine (contains_of w1 w1.heap.size A' n' c' L HI.out hn' x b HQ.out).mono ?_
  rintro e w2 ⟨rfl, rfl⟩
  go_wp2
  go_ret
  exact ⟨rfl, HB1.out⟩
set_option maxRecDepth 20000 in
set_option maxHeartbeats 1600000 in
theorem iDom (w : World) (B : Nat) (A : Option Addr) (n c : Nat) (its : List It) (A2 : Option Addr) (n2 c2 : Nat) (ns : List Nd) (h : InB w B A n its A2 n2 c2 ns) (x0 : Int) (L : List Int) (hL : DomP (datN ns) (its.map It.dat) x0 L) :
    Calls Try.prog 13 #[.slice A n c, .slice A2 n2 c2, .int .i64 x0] w fun e w' => (∃ v, e = .returned v ∧ OwnI w' w.heap.size v L) ∧ Below w.heap.size w w' := by
  have HC := Lib.hid (iContest w B A n c its A2 n2 c2 ns h)
  have HX := Lib.hid h.i
  have hn := h.hn
  have HL := Lib.hid hL
  clear h hL
  go_enter Try.func13, Try.ntmps13
  go_wp2_with fail
  refine HC.out.mono ?_
  rintro e w1 ⟨hout, hb1⟩
  have HB1 := Lib.hid hb1
  clear hb1 HC
  rcases hout with ⟨t, p, g, he, ha, ht, rfl, hct⟩ | ⟨hno, rfl⟩
  · have HLe : Hid (∀ x : It, findD (its.map It.dat) x0 = some x.dat → L = idL (its.filter fun u => btD t u.dat x.dat)) := Lib.hid fun x hf => by rw [HL.out.yes he ha ht, onFind_some hf]; exact ids_fil its _
    have HCt := Lib.hid hct
    clear he ha ht hct
    go_wp2_with fail
    refine (ctFind w1 p _ n n its HCt.out.r hn x0).mono ?_
    rintro e w2 ⟨hfd, hb2⟩
    have HB2 := Lib.hid (below_on HB1.out hb2)
    have HCt2 := Lib.hid (HCt.out.step hb2)
    clear hb2
    rcases hfd with ⟨x, hx, hf, rfl⟩ | ⟨hf, rfl⟩
    · have HLx := Lib.hid (HLe.out x hf)
      have hxm : x ∈ its := hx
      have HHx := Lib.hid hx
      clear hx hf HCt HLe
      have HCt := HCt2
      have HBa : Hid (Below w.heap.size w (w2.alloc (.cells #[.int .i64 x.id, .slice x.A x.n x.c, .pointer (some ⟨p, 0, none⟩)] 61))) := Lib.hid (HB2.out.alloc HB2.out.size _)
      have HCa : Hid (CtIn (w2.alloc (.cells #[.int .i64 x.id, .slice x.A x.n x.c, .pointer (some ⟨p, 0, none⟩)] 61)) B w.heap.size p t (some ⟨g, 0, none⟩) n its) := Lib.hid (HCt.out.step ((Below.refl _ _).alloc (Nat.le_refl _) _))
      go_wp2_with fail
      refine (ctWhere _ p _ n n its HCa.out.r hn _ (.inl rfl) _ (fun u => btD t u.dat x.dat) (fun W hW u hu => iBeaten W B w.heap.size p t x u (HCa.out.step hW).t (HCa.out.step hW).hB ((HCa.out.step hW).x x HHx.out).1 ((HCa.out.step hW).x u hu).1 (HCa.out.x x HHx.out).2 (HCa.out.x u hu).2)).mono ?_
      rintro e w3 ⟨⟨v3, rfl, ho⟩, hb3⟩
      have HB3 := Lib.hid (below_on HBa.out hb3)
      have hle : (its.filter fun u => btD t u.dat x.dat).length ≤ 1048576 := Nat.le_trans (List.length_filter_le _ _) (by rw [HX.out.1]; exact hn)
      obtain ⟨Aw, cw, rfl, -, -⟩ := ho.shape
      have HOw := Lib.hid ho
      clear ho hb3 hxm
      have hrd := OwnG.read (ctCells_len p) HOw.out
      have HRd := Lib.hid hrd
      clear hrd
      go_wp2_with fail
      refine (ctIds w3 p Aw _ cw _ HRd.out hle).mono ?_
      rintro e w4 ⟨⟨v, rfl, ho⟩, hb4⟩
      have HB4 := Lib.hid (below_on HB3.out hb4)
      have HI := Lib.hid (ownI_lower ho HB3.out.size)
      clear ho hb4 hle
      go_wp2
      go_ret
      exact ⟨⟨_, rfl, by rw [HLx.out]; exact HI.out⟩, HB4.out⟩
    · obtain rfl := HL.out.none hf
      clear hf
      go_wp2
      go_ret
      exact ⟨⟨_, rfl, ownI_nil _ _⟩, by first | exact HB2.out | exact HB2.out.alloc HB2.out.size _⟩
  · obtain rfl := HL.out.no hno
    clear hno
    go_wp2_with fail
    refine (ctFind w1 0 none 0 0 [] (ReadG.nil _ _ _) (by decide) x0).mono ?_
    rintro e w2 ⟨hfd, hb2⟩
    have HB2 := Lib.hid (below_on HB1.out hb2)
    clear hb2
    rcases hfd with ⟨x, hx, hf, rfl⟩ | ⟨hf, rfl⟩
    · cases hx
    · clear hf
      go_wp2
      go_ret
      exact ⟨⟨_, rfl, ownI_nil _ _⟩, by first | exact HB2.out | exact HB2.out.alloc HB2.out.size _⟩
set_option maxRecDepth 20000 in
set_option maxHeartbeats 1600000 in
theorem iSub (w : World) (B : Nat) (A : Option Addr) (n c : Nat) (its : List It) (A2 : Option Addr) (n2 c2 : Nat) (ns : List Nd) (h : InB w B A n its A2 n2 c2 ns) (x0 : Int) (L : List Int) (hL : SubP (datN ns) (its.map It.dat) x0 L) :
    Calls Try.prog 26 #[.slice A n c, .slice A2 n2 c2, .int .i64 x0] w fun e w' => (∃ v, e = .returned v ∧ OwnI w' w.heap.size v L) ∧ Below w.heap.size w w' := by
  have HC := Lib.hid (iContest w B A n c its A2 n2 c2 ns h)
  have HX := Lib.hid h.i
  have hn := h.hn
  have HL := Lib.hid hL
  clear h hL
  go_enter Try.func26, Try.ntmps26
  go_wp2_with fail
  refine HC.out.mono ?_
  rintro e w1 ⟨hout, hb1⟩
  have HB1 := Lib.hid hb1
  clear hb1 HC
  rcases hout with ⟨t, p, g, he, ha, ht, rfl, hct⟩ | ⟨hno, rfl⟩
  · have HLe : Hid (∀ x : It, findD (its.map It.dat) x0 = some x.dat → L = idL (its.filter fun u => btD t x.dat u.dat)) := Lib.hid fun x hf => by rw [HL.out.yes he ha ht, onFind_some hf]; exact ids_fil its _
    have HCt := Lib.hid hct
    clear he ha ht hct
    go_wp2_with fail
    refine (ctFind w1 p _ n n its HCt.out.r hn x0).mono ?_
    rintro e w2 ⟨hfd, hb2⟩
    have HB2 := Lib.hid (below_on HB1.out hb2)
    have HCt2 := Lib.hid (HCt.out.step hb2)
    clear hb2
    rcases hfd with ⟨x, hx, hf, rfl⟩ | ⟨hf, rfl⟩
    · have HLx := Lib.hid (HLe.out x hf)
      have hxm : x ∈ its := hx
      have HHx := Lib.hid hx
      clear hx hf HCt HLe
      have HCt := HCt2
      have HBa : Hid (Below w.heap.size w (w2.alloc (.cells #[.int .i64 x.id, .slice x.A x.n x.c, .pointer (some ⟨p, 0, none⟩)] 61))) := Lib.hid (HB2.out.alloc HB2.out.size _)
      have HCa : Hid (CtIn (w2.alloc (.cells #[.int .i64 x.id, .slice x.A x.n x.c, .pointer (some ⟨p, 0, none⟩)] 61)) B w.heap.size p t (some ⟨g, 0, none⟩) n its) := Lib.hid (HCt.out.step ((Below.refl _ _).alloc (Nat.le_refl _) _))
      go_wp2_with fail
      refine (ctWhere _ p _ n n its HCa.out.r hn _ (.inr (.inl rfl)) _ (fun u => btD t x.dat u.dat) (fun W hW u hu => iBeats W B w.heap.size p t x u (HCa.out.step hW).t (HCa.out.step hW).hB ((HCa.out.step hW).x x HHx.out).1 ((HCa.out.step hW).x u hu).1 (HCa.out.x x HHx.out).2 (HCa.out.x u hu).2)).mono ?_
      rintro e w3 ⟨⟨v3, rfl, ho⟩, hb3⟩
      have HB3 := Lib.hid (below_on HBa.out hb3)
      have hle : (its.filter fun u => btD t x.dat u.dat).length ≤ 1048576 := Nat.le_trans (List.length_filter_le _ _) (by rw [HX.out.1]; exact hn)
      obtain ⟨Aw, cw, rfl, -, -⟩ := ho.shape
      have HOw := Lib.hid ho
      clear ho hb3 hxm
      have hrd := OwnG.read (ctCells_len p) HOw.out
      have HRd := Lib.hid hrd
      clear hrd
      go_wp2_with fail
      refine (ctIds w3 p Aw _ cw _ HRd.out hle).mono ?_
      rintro e w4 ⟨⟨v, rfl, ho⟩, hb4⟩
      have HB4 := Lib.hid (below_on HB3.out hb4)
      have HI := Lib.hid (ownI_lower ho HB3.out.size)
      clear ho hb4 hle
      go_wp2
      go_ret
      exact ⟨⟨_, rfl, by rw [HLx.out]; exact HI.out⟩, HB4.out⟩
    · obtain rfl := HL.out.none hf
      clear hf
      go_wp2
      go_ret
      exact ⟨⟨_, rfl, ownI_nil _ _⟩, by first | exact HB2.out | exact HB2.out.alloc HB2.out.size _⟩
  · obtain rfl := HL.out.no hno
    clear hno
    go_wp2_with fail
    refine (ctFind w1 0 none 0 0 [] (ReadG.nil _ _ _) (by decide) x0).mono ?_
    rintro e w2 ⟨hfd, hb2⟩
    have HB2 := Lib.hid (below_on HB1.out hb2)
    clear hb2
    rcases hfd with ⟨x, hx, hf, rfl⟩ | ⟨hf, rfl⟩
    · cases hx
    · clear hf
      go_wp2
      go_ret
      exact ⟨⟨_, rfl, ownI_nil _ _⟩, by first | exact HB2.out | exact HB2.out.alloc HB2.out.size _⟩
set_option maxRecDepth 20000 in
set_option maxHeartbeats 1600000 in
theorem iRankB (w : World) (B : Nat) (A : Option Addr) (n c : Nat) (its : List It) (A2 : Option Addr) (n2 c2 : Nat) (ns : List Nd) (h : InB w B A n its A2 n2 c2 ns) (x0 : Int) (L : Int) (hL : RankP (datN ns) (its.map It.dat) x0 L) :
    Calls Try.prog 17 #[.slice A n c, .slice A2 n2 c2, .int .i64 x0] w fun e w' => e = .returned (.int .i64 L) ∧ Below w.heap.size w w' := by
  have HC := Lib.hid (iContest w B A n c its A2 n2 c2 ns h)
  have HX := Lib.hid h.i
  have hn := h.hn
  have HL := Lib.hid hL
  clear h hL
  go_enter Try.func17, Try.ntmps17
  go_wp2_with fail
  refine HC.out.mono ?_
  rintro e w1 ⟨hout, hb1⟩
  have HB1 := Lib.hid hb1
  clear hb1 HC
  rcases hout with ⟨t, p, g, he, ha, ht, rfl, hct⟩ | ⟨hno, rfl⟩
  · have HLe : Hid (∀ x : It, findD (its.map It.dat) x0 = some x.dat → L = ((its.filter fun u => btD t u.dat x.dat).length : Nat)) := Lib.hid fun x hf => by
      rw [HL.out.yes he ha ht, onFind_some hf]
      unfold domD
      rw [List.filter_map, List.length_map]
      rfl
    have HLn : Hid (findD (its.map It.dat) x0 = none → L = -1) := Lib.hid fun hf => by rw [HL.out.yes he ha ht, onFind_none hf]
    have HCt := Lib.hid hct
    clear he ha ht hct
    go_wp2_with fail
    refine (ctFind w1 p _ n n its HCt.out.r hn x0).mono ?_
    rintro e w2 ⟨hfd, hb2⟩
    have HB2 := Lib.hid (below_on HB1.out hb2)
    have HCt2 := Lib.hid (HCt.out.step hb2)
    clear hb2
    rcases hfd with ⟨x, hx, hf, rfl⟩ | ⟨hf, rfl⟩
    · have HLx := Lib.hid (HLe.out x hf)
      have hxm : x ∈ its := hx
      have HHx := Lib.hid hx
      clear hx hf HCt HLe
      have HCt := HCt2
      have HBa : Hid (Below w.heap.size w (w2.alloc (.cells #[.int .i64 x.id, .slice x.A x.n x.c, .pointer (some ⟨p, 0, none⟩)] 61))) := Lib.hid (HB2.out.alloc HB2.out.size _)
      have HCa : Hid (CtIn (w2.alloc (.cells #[.int .i64 x.id, .slice x.A x.n x.c, .pointer (some ⟨p, 0, none⟩)] 61)) B w.heap.size p t (some ⟨g, 0, none⟩) n its) := Lib.hid (HCt.out.step ((Below.refl _ _).alloc (Nat.le_refl _) _))
      go_wp2_with fail
      refine (ctWhere _ p _ n n its HCa.out.r hn _ (.inl rfl) _ (fun u => btD t u.dat x.dat) (fun W hW u hu => iBeaten W B w.heap.size p t x u (HCa.out.step hW).t (HCa.out.step hW).hB ((HCa.out.step hW).x x HHx.out).1 ((HCa.out.step hW).x u hu).1 (HCa.out.x x HHx.out).2 (HCa.out.x u hu).2)).mono ?_
      rintro e w3 ⟨⟨v3, rfl, ho⟩, hb3⟩
      have HB3 := Lib.hid (below_on HBa.out hb3)
      have hle : (its.filter fun u => btD t u.dat x.dat).length ≤ 1048576 := Nat.le_trans (List.length_filter_le _ _) (by rw [HX.out.1]; exact hn)
      obtain ⟨Aw, cw, rfl, -, -⟩ := ho.shape
      have HOw := Lib.hid ho
      clear ho hb3 hxm
      go_wp2
      go_ret
      exact ⟨by rw [HLx.out]; rfl, HB3.out⟩
    · obtain rfl := HLn.out hf
      clear hf
      go_wp2
      go_ret
      exact ⟨rfl, by first | exact HB2.out | exact HB2.out.alloc HB2.out.size _⟩
  · obtain rfl := HL.out.no hno
    clear hno
    go_wp2_with fail
    refine (ctFind w1 0 none 0 0 [] (ReadG.nil _ _ _) (by decide) x0).mono ?_
    rintro e w2 ⟨hfd, hb2⟩
    have HB2 := Lib.hid (below_on HB1.out hb2)
    clear hb2
    rcases hfd with ⟨x, hx, hf, rfl⟩ | ⟨hf, rfl⟩
    · cases hx
    · clear hf
      go_wp2
      go_ret
      exact ⟨rfl, by first | exact HB2.out | exact HB2.out.alloc HB2.out.size _⟩
set_option maxRecDepth 20000 in
set_option maxHeartbeats 3200000 in
theorem iWidth (w : World) (B : Nat) (A : Option Addr) (n c : Nat) (its : List It) (A2 : Option Addr) (n2 c2 : Nat) (ns : List Nd) (h : InB w B A n its A2 n2 c2 ns) (L : Int) (hL : WidP (datN ns) (its.map It.dat) L) :
    Calls Try.prog 21 #[.slice A n c, .slice A2 n2 c2] w fun e w' => e = .returned (.int .i64 L) ∧ Below w.heap.size w w' := by
  have HC := Lib.hid (iContest w B A n c its A2 n2 c2 ns h)
  have HX := Lib.hid h.i
  have hn := h.hn
  have HL := Lib.hid hL
  clear h hL
  go_enter Try.func21, Try.ntmps21
  go_wp2_with fail
  refine HC.out.mono ?_
  rintro e w1 ⟨hout, hb1⟩
  have HB1 := Lib.hid hb1
  clear hb1 HC
  rcases hout with ⟨t, p, g, he, ha, ht, rfl, hct⟩ | ⟨hno, rfl⟩
  · have HLe : Hid (L = (mostL (fun x y => lvB t x.dat y.dat) its its : Nat)) := Lib.hid (by rw [HL.out.yes he ha ht, mostD_it])
    have HCt := Lib.hid hct
    clear he ha ht hct
    go_wp2
    go_loopw [6, 14] (fun v i wr => ∃ k : Nat, k ≤ n ∧ i = .int .i64 k ∧ v = .int .i64 (mostL (fun x y => lvB t x.dat y.dat) its (its.take k) : Nat) ∧ Below w1.heap.size w1 wr) (fun _ i _ => n - (intOf i).toNat)
    case atStart => exact ⟨0, Nat.zero_le _, rfl, rfl, Below.refl _ _⟩
    case round =>
      obtain ⟨k, hk, rfl, rfl, hbel⟩ := hrel
      have HB := Lib.hid hbel
      have HCr := Lib.hid (HCt.out.step hbel)
      obtain ⟨M, hM⟩ : ∃ M, mostL (fun x y => lvB t x.dat y.dat) its (its.take k) = M := ⟨_, rfl⟩
      have hM1 : M ≤ n := by rw [← hM, ← HX.out.1]; exact mostL_le _ _ _
      rw [hM]
      have HM := Lib.hid hM
      clear hM hbel
      by_cases hlt : k < n
      · obtain ⟨b, off, x, hA, hb, hat, f0, f1, f2⟩ := ct_at HCr.out.r k hlt
        injection hA with hA
        injection hA with e1 e2
        subst e1 e2
        rw [Nat.zero_add] at f0 f1 f2
        have HAt := Lib.hid hat
        have HHx := Lib.hid (mem_of_at hat)
        have hlt' : (k : Int) < (n : Int) := by omega
        have HCa : Hid (CtIn (wr.alloc (.cells #[.int .i64 x.id, .slice x.A x.n x.c, .pointer (some ⟨p, 0, none⟩)] 61)) B w.heap.size p t (some ⟨g, 0, none⟩) n its) := Lib.hid (HCr.out.step ((Below.refl _ _).alloc (Nat.le_refl _) _))
        have HBa : Hid (Below w1.heap.size w1 (wr.alloc (.cells #[.int .i64 x.id, .slice x.A x.n x.c, .pointer (some ⟨p, 0, none⟩)] 61))) := Lib.hid (HB.out.alloc HB.out.size _)
        clear hat
        go_wp2_with fail
        refine (ctWhere _ p _ n n its HCa.out.r hn _ (.inr (.inr (.inl rfl))) _ (fun u => lvB t x.dat u.dat) (fun W hW u hu => iLevel W B w.heap.size p t x u (HCa.out.step hW).t (HCa.out.step hW).hB ((HCa.out.step hW).x x HHx.out).1 ((HCa.out.step hW).x u hu).1 (HCa.out.x x HHx.out).2 (HCa.out.x u hu).2)).mono ?_
        rintro e w3 ⟨⟨v3, rfl, ho⟩, hb3⟩
        have HB3 := Lib.hid (below_on HBa.out hb3)
        obtain ⟨K, hK⟩ : ∃ K, (its.filter fun u => lvB t x.dat u.dat).length = K := ⟨_, rfl⟩
        have hK1 : K ≤ n := by rw [← hK, ← HX.out.1]; exact List.length_filter_le _ _
        obtain ⟨Aw, cw, rfl, -, -⟩ := ho.shape
        rw [hK]
        have HMx : Hid (mostL (fun x y => lvB t x.dat y.dat) its (its.take (k + 1)) = max M K) := Lib.hid (by rw [take_at HAt.out, mostL_snoc, HM.out, hK])
        clear ho hb3 hK f0 f1 f2
        go_wp2
        go_roundw
        case rel => exact ⟨k + 1, by omega, by go_num, by rw [HMx.out]; congr 1; omega, HB3.out⟩
        case measure => simp [intOf]; omega
      · obtain rfl : k = n := by omega
        have hML : L = (M : Nat) := by rw [HLe.out, ← HM.out, take_all HX.out.1]
        subst hML
        go_wp2
        go_ret
        exact ⟨rfl, HB1.out.trans (HB.out.mono HB1.out.size)⟩
  · obtain rfl := HL.out.no hno
    clear hno
    go_wp2
    go_loopw [6, 14] (fun v i wr => v = .int .i64 0 ∧ i = .int .i64 0 ∧ wr = w1) (fun _ _ _ => 0)
    case atStart => exact ⟨rfl, rfl, rfl⟩
    case round =>
      obtain ⟨rfl, rfl, rfl⟩ := hrel
      go_wp2
      go_ret
      exact ⟨rfl, HB1.out⟩
end Go.Proofs.Ytadjoiahllekdaa.num
namespace Go.Proofs.Ytadjoiahllekdaa.num
set_option maxRecDepth 20000
open Go.RowKit

theorem sameInts_of (w : World) (B : Nat) (A A' : Option Addr) (n n' c c' : Nat) (xs ys : List Int) (hx : Ints w B A n xs) (hy : Ints w B A' n' ys) (hn : n ≤ 1048576) (b : Bool) (hb : b = true ↔ xs = ys) :
    Calls Try.prog 14 #[.slice A n c, .slice A' n' c'] w fun e w' => e = .returned (.bool b) ∧ ∃ m, w' = w.drewN m := by
  have HX := Lib.hid hx
  have HY := Lib.hid hy
  by_cases hl : n = n'
  · subst hl
    have HB := Lib.hid hb
    clear hx hy hb
    go_enter Try.func14, Try.ntmps14
    go_wp2
    go_loopw [5] (fun i wr => ∃ k : Nat, k ≤ n ∧ i = .int .i64 k ∧ xs.take k = ys.take k ∧ ∃ m, wr = w.drewN m) (fun i _ => n - (intOf i).toNat)
    case atStart => exact ⟨0, Nat.zero_le _, rfl, rfl, 0, rfl⟩
    case round =>
      obtain ⟨k, hk, rfl, htake, m, rfl⟩ := hrel
      have HT := Lib.hid htake
      clear htake
      by_cases hlt : k < n
      · obtain ⟨b1, off1, rfl, hb1, hc1⟩ := HX.out.2 k hlt
        obtain ⟨b2, off2, rfl, hb2, hc2⟩ := HY.out.2 k hlt
        generalize hv1 : xs.getD k 0 = v1 at *
        generalize hv2 : ys.getD k 0 = v2 at *
        have HV1 := Lib.hid hv1
        have HV2 := Lib.hid hv2
        clear hv1 hv2
        have hlt' : (k : Int) < (n : Int) := by omega
        by_cases he : v1 = v2
        · subst he
          go_wp2
          go_quiet (fail)
          go_wp2
          go_roundw
          case rel => exact ⟨k + 1, by omega, by go_num, by rw [take_snoc_getD HX.out.1 hlt, take_snoc_getD HY.out.1 hlt, HT.out, HV1.out, HV2.out], _, rfl⟩
          case measure => simp [intOf]; omega
        · have hne : (v1 != v2) = true := by simpa using he
          have hxy : xs ≠ ys := ne_at (k := k) (by rw [HV1.out, HV2.out]; exact he)
          obtain rfl : b = false := by
            cases b
            · rfl
            · exact absurd (HB.out.1 rfl) hxy
          have HE := Lib.hid he
          clear he hxy
          go_wp2
          go_quiet (fail)
          go_wp2
          go_ret
          exact ⟨rfl, _, World.drewN_drewN _ _ _⟩
      · obtain rfl : k = n := by omega
        obtain rfl : b = true := HB.out.2 (by
          have h1 := HT.out
          rwa [List.take_of_length_le (by rw [HX.out.1]; exact Nat.le_refl _), List.take_of_length_le (by rw [HY.out.1]; exact Nat.le_refl _)] at h1)
        go_wp2
        go_ret
        exact ⟨rfl, _, rfl⟩
  · obtain rfl : b = false := by
      cases b
      · rfl
      · exact absurd (by rw [← hx.1, hb.1 rfl, hy.1]) hl
    clear hx hy hb
    go_enter Try.func14, Try.ntmps14
    go_wp2
    go_ret
    exact ⟨rfl, 0, rfl⟩
end Go.Proofs.Ytadjoiahllekdaa.num
namespace Go.Proofs.Ytadjoiahllekdaa.num
set_option maxRecDepth 20000
open Go.RowKit Go.Maps
set_option linter.unusedVariables false
set_option linter.unusedSimpArgs false

theorem sameInts_w (w : World) (B : Nat) (A A' : Option Addr) (n n' c c' : Nat) (xs ys : List Int) (hx : Ints w B A n xs) (hy : Ints w B A' n' ys) (hn : n ≤ 1048576) (b : Bool) (hb : b = true ↔ xs = ys) :
    Calls Try.prog 14 #[.slice A n c, .slice A' n' c'] w fun e w' => e = .returned (.bool b) ∧ Below w.heap.size w w' :=
  (sameInts_of w B A A' n n' c c' xs ys hx hy hn b hb).mono fun _ _ ⟨he, m, hm⟩ => ⟨he, hm ▸ below_drewN (Below.refl _ _) m⟩
theorem lawHas_w (w : World) (B : Nat) (A : Option Addr) (n c : Nat) (xs : List Int) (hi : Ints w B A n xs) (hn : n ≤ 2000000) (x : Int) (b : Bool) (hb : b = true ↔ x ∈ xs) :
    Calls Try.prog 20 #[.slice A n c, .int .i64 x] w fun e w' => e = .returned (.bool b) ∧ Below w.heap.size w w' :=
  (lawHas w B A n c xs hi hn x b hb).mono fun _ _ ⟨he, hm⟩ => ⟨he, hm ▸ Below.refl _ _⟩
theorem any_one {LD LB : List Int} {k : Nat} {y : Int} (hat : LD[k]? = some y) : ((LD.take (k + 1)).any fun y => decide (y ∈ LB)) = (((LD.take k).any fun y => decide (y ∈ LB)) || decide (y ∈ LB)) := by
  rw [take_at hat, List.any_append]
  simp
set_option maxRecDepth 100000 in
set_option maxHeartbeats 16000000 in
theorem best_walk (a : Option Addr) (len cap : Nat) (hlm : len ≤ 9223372036854775807) (w : World) (hrow : Row w w.heap.size a len) :
    Calls Try.prog 3 #[.slice a len cap] w fun e w' => e = .returned (.bool true) ∧ Below w.heap.size w w' := by
  have HR := Lib.hid hrow
  clear hrow
  obtain ⟨q0, hq0⟩ := bool_of (1048576 < len)
  go_enter Try.func3, Try.ntmps3
  go_wp2_with fail
  refine (big_any a len cap q0 hq0 hlm _).mono ?_
  rintro e w1 ⟨rfl, hw1⟩
  have HB1 : Hid (Below w.heap.size w w1) := Lib.hid (by rw [← hw1]; exact Below.refl _ _)
  have HR1 : Hid (Row w1 w1.heap.size a len) := Lib.hid (by rw [← hw1]; exact HR.out)
  clear hw1 HR
  cases q0
  case true =>
    go_wp2
    go_ret
    exact ⟨rfl, HB1.out⟩
  have hlen : len ≤ 1048576 := by
    rcases Nat.lt_or_ge 1048576 len with h | h
    · have := hq0.2 h; cases this
    · exact h
  clear hq0
  have HL := Lib.hid hlen
  clear hlen
  go_wp2_with fail
  refine (draw_dom w1 a len cap HL.out HR1.out).mono ?_
  rintro e w2 ⟨A, n, c, its, A', n', c', ns, x, rfl, ⟨hI, i1, i2, i3, i4⟩, ⟨hN, j1, j2, j3, j4⟩, hb2⟩
  have HB2 := Lib.hid (HB1.out.trans (hb2.mono HB1.out.size))
  have In_2 : Hid (InB w2 w2.heap.size A n its A' n' c' ns) := Lib.hid ⟨hI, hN, Nat.le_refl _, by omega, by omega, j1, (by unfold maxLen at j2; omega), i1, j3⟩
  clear hI hN i1 i2 i3 i4 j1 j2 j3 j4 hb2 HR1 HL
  obtain ⟨LB, hLB⟩ := AnsP.some (datN ns) (its.map It.dat) (fun t => idsD (bestD t (its.map It.dat))) []
  replace hLB : BestP (datN ns) (its.map It.dat) LB := hLB
  obtain ⟨LD, hLD⟩ := AnsP.some (datN ns) (its.map It.dat) (fun t => onFind (its.map It.dat) x [] fun d => idsD (domD t (its.map It.dat) d)) []
  replace hLD : DomP (datN ns) (its.map It.dat) x LD := hLD
  obtain ⟨R, hR⟩ := AnsP.some (datN ns) (its.map It.dat) (fun t => onFind (its.map It.dat) x (-1) fun d => (((domD t (its.map It.dat) d).length : Nat) : Int)) (-1)
  replace hR : RankP (datN ns) (its.map It.dat) x R := hR
  obtain ⟨W, hW⟩ := AnsP.some (datN ns) (its.map It.dat) (fun t => ((mostD t (its.map It.dat) (its.map It.dat) : Nat) : Int)) 0
  replace hW : WidP (datN ns) (its.map It.dat) W := hW
  obtain ⟨qb, hqb⟩ := AnsP.some (datN ns) (its.map It.dat) (fun t => decide (x ∈ idsD (bestD t (its.map It.dat)))) false
  replace hqb : IsBP (datN ns) (its.map It.dat) x qb := hqb
  have HQb := Lib.hid hqb
  have HQm := Lib.hid (hqb.iff hLB)
  have HLb := Lib.hid hLB
  have HLd := Lib.hid hLD
  have HRk := Lib.hid hR
  have HWd := Lib.hid hW
  have hRR : (R != R) = false := by simp
  have hWW : (W != W) = false := by simp
  have hqq : (qb != qb) = false := by simp
  obtain ⟨qa, hqa⟩ := bool_of (AreP (its.map It.dat))
  have HQa := Lib.hid hqa
  obtain ⟨qe, hqe⟩ := bool_of (IsE (datN ns))
  have HQe := Lib.hid hqe
  have HLs := Lib.hid (And.intro hLB.small hLD.small)
  clear hLB hLD hR hW hqb hqa hqe
  go_wp2_with fail
  refine (iBest _ _ A n c its A' n' c' ns In_2.out LB HLb.out).mono ?_
  rintro e w3 ⟨⟨vb, rfl, ho⟩, hb3⟩
  have HB3 := Lib.hid (below_on HB2.out hb3)
  have In_3 := Lib.hid (In_2.out.below hb3)
  obtain ⟨Ab, nb, cb, rfl, hi⟩ := ho.ints
  have Ib_3 := Lib.hid hi
  clear ho hi
  clear hb3
  have hnb : nb ≤ 16 := by have h1 := Ib_3.out.1; have h2 := HLs.out.1; omega
  have HNb := Lib.hid hnb
  clear hnb
  go_wp2_with fail
  refine (iDom _ _ A n c its A' n' c' ns In_3.out x LD HLd.out).mono ?_
  rintro e w4 ⟨⟨vd, rfl, ho⟩, hb4⟩
  have HB4 := Lib.hid (below_on HB3.out hb4)
  have In_4 := Lib.hid (In_3.out.below hb4)
  have Ib_4 := Lib.hid (Ib_3.out.step hb4)
  obtain ⟨Ad, nd, cd, rfl, hi⟩ := ho.ints
  have Id_4 := Lib.hid hi
  clear ho hi
  clear hb4
  have hnd : nd ≤ 16 := by have h1 := Id_4.out.1; have h2 := HLs.out.2; omega
  have HNd := Lib.hid hnd
  clear hnd
  go_wp2_with fail
  refine (sBest _ _ A n c its A' n' c' ns In_4.out LB HLb.out).mono ?_
  rintro e w5 ⟨⟨vp, rfl, ho⟩, hb5⟩
  have HB5 := Lib.hid (below_on HB4.out hb5)
  have In_5 := Lib.hid (In_4.out.below hb5)
  have Ib_5 := Lib.hid (Ib_4.out.step hb5)
  have Id_5 := Lib.hid (Id_4.out.step hb5)
  obtain ⟨Ap, np, cp, rfl, hi⟩ := ho.ints
  have Ip_5 := Lib.hid hi
  clear ho hi
  clear hb5
  go_wp2_with fail
  refine (sameInts_w _ _ _ _ nb np cb cp LB LB Ib_5.out Ip_5.out (Nat.le_trans HNb.out (by decide)) true (by simp)).mono ?_
  rintro e w6 ⟨rfl, hb6⟩
  have HB6 := Lib.hid (below_on HB5.out hb6)
  have In_6 := Lib.hid (In_5.out.below hb6)
  have Ib_6 := Lib.hid (Ib_5.out.step hb6)
  have Id_6 := Lib.hid (Id_5.out.step hb6)
  have Ip_6 := Lib.hid (Ip_5.out.step hb6)
  clear hb6
  go_wp2_with fail
  refine (sDom _ _ A n c its A' n' c' ns In_6.out x LD HLd.out).mono ?_
  rintro e w7 ⟨⟨vr, rfl, ho⟩, hb7⟩
  have HB7 := Lib.hid (below_on HB6.out hb7)
  have In_7 := Lib.hid (In_6.out.below hb7)
  have Ib_7 := Lib.hid (Ib_6.out.step hb7)
  have Id_7 := Lib.hid (Id_6.out.step hb7)
  obtain ⟨Ar, nr, cr, rfl, hi⟩ := ho.ints
  have Ir_7 := Lib.hid hi
  clear ho hi
  clear hb7
  go_wp2_with fail
  refine (sameInts_w _ _ _ _ nd nr cd cr LD LD Id_7.out Ir_7.out (Nat.le_trans HNd.out (by decide)) true (by simp)).mono ?_
  rintro e w8 ⟨rfl, hb8⟩
  have HB8 := Lib.hid (below_on HB7.out hb8)
  have In_8 := Lib.hid (In_7.out.below hb8)
  have Ib_8 := Lib.hid (Ib_7.out.step hb8)
  have Id_8 := Lib.hid (Id_7.out.step hb8)
  have Ir_8 := Lib.hid (Ir_7.out.step hb8)
  clear hb8
  go_wp2_with fail
  refine (iRankB _ _ A n c its A' n' c' ns In_8.out x R HRk.out).mono ?_
  rintro e w9 ⟨rfl, hb9⟩
  have HB9 := Lib.hid (below_on HB8.out hb9)
  have In_9 := Lib.hid (In_8.out.below hb9)
  have Ib_9 := Lib.hid (Ib_8.out.step hb9)
  have Id_9 := Lib.hid (Id_8.out.step hb9)
  clear hb9
  go_wp2_with fail
  refine (sRankB _ _ A n c its A' n' c' ns In_9.out x R HRk.out).mono ?_
  rintro e w10 ⟨rfl, hb10⟩
  have HB10 := Lib.hid (below_on HB9.out hb10)
  have In_10 := Lib.hid (In_9.out.below hb10)
  have Ib_10 := Lib.hid (Ib_9.out.step hb10)
  have Id_10 := Lib.hid (Id_9.out.step hb10)
  clear hb10
  go_wp2_with fail
  refine (iIsBest _ _ A n c its A' n' c' ns In_10.out x qb HQb.out).mono ?_
  rintro e w11 ⟨rfl, hb11⟩
  have HB11 := Lib.hid (below_on HB10.out hb11)
  have In_11 := Lib.hid (In_10.out.below hb11)
  have Ib_11 := Lib.hid (Ib_10.out.step hb11)
  have Id_11 := Lib.hid (Id_10.out.step hb11)
  clear hb11
  go_wp2_with fail
  refine (lawHas_w _ _ Ab nb cb LB Ib_11.out (Nat.le_trans HNb.out (by decide)) x qb HQm.out).mono ?_
  rintro e w12 ⟨rfl, hb12⟩
  have HB12 := Lib.hid (below_on HB11.out hb12)
  have In_12 := Lib.hid (In_11.out.below hb12)
  have Ib_12 := Lib.hid (Ib_11.out.step hb12)
  have Id_12 := Lib.hid (Id_11.out.step hb12)
  clear hb12
  go_wp2_with fail
  refine (iWidth _ _ A n c its A' n' c' ns In_12.out W HWd.out).mono ?_
  rintro e w13 ⟨rfl, hb13⟩
  have HB13 := Lib.hid (below_on HB12.out hb13)
  have In_13 := Lib.hid (In_12.out.below hb13)
  have Ib_13 := Lib.hid (Ib_12.out.step hb13)
  have Id_13 := Lib.hid (Id_12.out.step hb13)
  clear hb13
  go_wp2_with fail
  refine (sWidth _ _ A n c its A' n' c' ns In_13.out W HWd.out).mono ?_
  rintro e w14 ⟨rfl, hb14⟩
  have HB14 := Lib.hid (below_on HB13.out hb14)
  have In_14 := Lib.hid (In_13.out.below hb14)
  have Ib_14 := Lib.hid (Ib_13.out.step hb14)
  have Id_14 := Lib.hid (Id_13.out.step hb14)
  clear hb14
  go_wp2_with fail
  refine (sAre _ _ A n c its In_14.out.i In_14.out.hB In_14.out.hn In_14.out.si qa HQa.out).mono ?_
  rintro e w15 ⟨rfl, hb15⟩
  have HB15 := Lib.hid (below_on HB14.out hb15)
  have In_15 := Lib.hid (In_14.out.below hb15)
  have Ib_15 := Lib.hid (Ib_14.out.step hb15)
  have Id_15 := Lib.hid (Id_14.out.step hb15)
  clear hb15
  cases qa
  · have hl : LD = [] := HLd.out.no (fun hh => by have := HQa.out.2 hh.2; cases this)
    have h1 := Id_15.out.1
    rw [hl] at h1
    obtain rfl : nd = 0 := by simpa using h1.symm
    clear hl h1
    go_wp2
    go_ret
    exact ⟨rfl, HB15.out⟩
  go_wp2_with fail
  refine (sIsE _ _ A' n' c' ns In_15.out.e In_15.out.hB In_15.out.hn2 In_15.out.se qe HQe.out).mono ?_
  rintro e w16 ⟨rfl, hb16⟩
  have HB16 := Lib.hid (below_on HB15.out hb16)
  have In_16 := Lib.hid (In_15.out.below hb16)
  have Ib_16 := Lib.hid (Ib_15.out.step hb16)
  have Id_16 := Lib.hid (Id_15.out.step hb16)
  clear hb16
  cases qe
  · have hl : LD = [] := HLd.out.no (fun hh => by have := HQe.out.2 hh.1; cases this)
    have h1 := Id_16.out.1
    rw [hl] at h1
    obtain rfl : nd = 0 := by simpa using h1.symm
    clear hl h1
    go_wp2
    go_ret
    exact ⟨rfl, HB16.out⟩
  go_wp2_with fail
  refine (sFind _ _ A n c its In_16.out.i In_16.out.hB In_16.out.hn x).mono ?_
  rintro e w17 ⟨⟨r, rfl, hr⟩, hb17⟩
  have HB17 := Lib.hid (below_on HB16.out hb17)
  have In_17 := Lib.hid (In_16.out.below hb17)
  have Ib_17 := Lib.hid (Ib_16.out.step hb17)
  have Id_17 := Lib.hid (Id_16.out.step hb17)
  have hfd := hr.find
  clear hr
  clear hb17
  rcases hfd with ⟨rfl, hf⟩ | ⟨m, d, rfl, -, -, hf⟩
  · have hl : LD = [] := HLd.out.none hf
    have h1 := Id_17.out.1
    rw [hl] at h1
    obtain rfl : nd = 0 := by simpa using h1.symm
    clear hl h1
    go_wp2
    go_ret
    exact ⟨rfl, HB17.out⟩
  have HE : Hid (IsE (datN ns)) := Lib.hid (HQe.out.1 (by first | rfl | trivial))
  have HA : Hid (AreP (its.map It.dat)) := Lib.hid (HQa.out.1 (by first | rfl | trivial))
  have HF := Lib.hid hf
  have BF := Lib.hid (best_facts HLb.out HLd.out HRk.out HWd.out HE.out HA.out hf)
  have hm0 : decide ((m : Int) < 0) = false := by simp
  obtain ⟨zd, hzd⟩ : ∃ zd, ((nd : Int) == 0) = zd := ⟨_, rfl⟩
  have HZd : Hid (zd = true ↔ LD = []) := Lib.hid (by
    rw [← hzd]
    have h1 := Id_17.out.1
    constructor
    · intro h
      have h2 : (nd : Int) = 0 := by simpa using h
      exact List.eq_nil_of_length_eq_zero (by omega)
    · intro h
      rw [h] at h1
      have h2 : nd = 0 := by simpa using h1.symm
      rw [h2]; rfl)
  clear hf
  go_wp2
  go_loopw [8, 9] (fun s i wr => ∃ k : Nat, k ≤ nd ∧ i = .int .i64 k ∧ s = .bool (zd || (LD.take k).any fun y => decide (y ∈ LB)) ∧ Below w17.heap.size w17 wr) (fun _ i _ => nd - (intOf i).toNat)
  case atStart => exact ⟨0, Nat.zero_le _, rfl, by simp, Below.refl _ _⟩
  case round =>
    obtain ⟨k, hk, rfl, rfl, hbel⟩ := hrel
    have HBl := Lib.hid hbel
    have HBr := Lib.hid (below_on HB17.out hbel)
    have In_r := Lib.hid (In_17.out.below hbel)
    have Ib_r := Lib.hid (Ib_17.out.step hbel)
    have Id_r := Lib.hid (Id_17.out.step hbel)
    obtain ⟨sb, hsb⟩ : ∃ sb, (zd || (LD.take k).any fun y => decide (y ∈ LB)) = sb := ⟨_, rfl⟩
    rw [hsb]
    have HSb := Lib.hid hsb
    clear hsb hbel
    by_cases hlt : k < nd
    · obtain ⟨b1, off, y, hAd, hb1, hat, hc⟩ := Id_r.out.at k hlt
      subst hAd
      have HAt := Lib.hid hat
      have hlt' : (k : Int) < (nd : Int) := by omega
      have hk16 : k ≤ 16 := by have := HNd.out; omega
      have hym : y ∈ LD := mem_of_at hat
      obtain ⟨LS, hLS⟩ := AnsP.some (datN ns) (its.map It.dat) (fun t => onFind (its.map It.dat) y [] fun d => idsD (subD t (its.map It.dat) d)) []
      replace hLS : SubP (datN ns) (its.map It.dat) y LS := hLS
      have HLs2 := Lib.hid hLS
      have HXs : Hid (x ∈ LS) := Lib.hid (sub_of HLd.out hLS HE.out HA.out HF.out hym)
      have HSm := Lib.hid hLS.small
      have HC := Lib.hid (fun (W' : World) (hW' : Below wr.heap.size wr W') => iSub W' w2.heap.size A n c its A' n' c' ns (In_r.out.below hW') y LS HLs2.out)
      have HCell := Lib.hid (And.intro hb1 hc)
      clear hat hym hLS
      cases sb
      · obtain ⟨q2, hq2⟩ := bool_of (y ∈ LB)
        have HQ2 := Lib.hid hq2
        have hqd : decide (y ∈ LB) = q2 := by rw [Bool.eq_iff_iff, hq2]; simp
        have HQd := Lib.hid hqd
        clear hq2 hqd
        go_wp2_with fail
        refine (lawHas_w wr _ Ab nb cb LB Ib_r.out (Nat.le_trans HNb.out (by decide)) y q2 HQ2.out).mono ?_
        rintro e wq ⟨rfl, hbq⟩
        have HBq := Lib.hid hbq
        have hc := (hbq.cell (p := ⟨b1, off + k, none⟩) HCell.out.1).trans HCell.out.2
        clear hbq
        go_wp2_with fail
        refine (HC.out _ HBq.out).mono ?_
        rintro e w3' ⟨⟨v, rfl, ho⟩, hb3⟩
        obtain ⟨As, nS, cs, rfl, hi⟩ := ho.ints
        have hns : nS ≤ 2000000 := by have h1 := hi.1; have h2 := HSm.out; omega
        have HI3 := Lib.hid hi
        have HB3' := Lib.hid (below_on HBq.out hb3)
        clear ho hb3 hi hc
        go_wp2_with fail
        refine (lawHas_w w3' _ As nS cs LS HI3.out hns x true ⟨fun _ => HXs.out, fun _ => rfl⟩).mono ?_
        rintro e w4' ⟨rfl, hb4⟩
        have HB4' := Lib.hid (HBl.out.trans ((below_on HB3'.out hb4).mono HBl.out.size))
        clear hb4 hns
        go_wp2
        go_roundw
        case rel => exact ⟨k + 1, by omega, by go_num, by rw [any_one HAt.out, ← Bool.or_assoc, HSb.out, HQd.out, Bool.false_or], HB4'.out⟩
        case measure => simp [intOf]; omega
      · go_wp2_with fail
        refine (HC.out _ (Below.refl _ _)).mono ?_
        rintro e w3' ⟨⟨v, rfl, ho⟩, hb3⟩
        obtain ⟨As, nS, cs, rfl, hi⟩ := ho.ints
        have hns : nS ≤ 2000000 := by have h1 := hi.1; have h2 := HSm.out; omega
        have HI3 := Lib.hid hi
        have HB3' := Lib.hid (below_on (Below.refl _ _) hb3)
        clear ho hb3 hi hc
        go_wp2_with fail
        refine (lawHas_w w3' _ As nS cs LS HI3.out hns x true ⟨fun _ => HXs.out, fun _ => rfl⟩).mono ?_
        rintro e w4' ⟨rfl, hb4⟩
        have HB4' := Lib.hid (HBl.out.trans ((below_on HB3'.out hb4).mono HBl.out.size))
        clear hb4 hns
        go_wp2
        go_roundw
        case rel => exact ⟨k + 1, by omega, by go_num, by rw [any_one HAt.out, ← Bool.or_assoc, HSb.out, Bool.true_or], HB4'.out⟩
        case measure => simp [intOf]; omega
    · obtain rfl : k = nd := by omega
      have ht : LD.take k = LD := List.take_of_length_le (by have h := Id_r.out.1; omega)
      obtain rfl : sb = true := by
        rw [← HSb.out, ht]
        by_cases hz : zd = true
        · rw [hz]; rfl
        · obtain ⟨y, h1, h2⟩ := BF.out.some (fun h => hz (HZd.out.2 h))
          rw [Bool.or_eq_true]
          exact .inr (List.any_eq_true.2 ⟨y, h1, by simpa using h2⟩)
      have HZb : Hid (zd = true ↔ x ∈ LB) := Lib.hid (HZd.out.trans BF.out.best.symm)
      have hzz : (zd == zd) = true := by simp
      have hRk : (R == (k : Int)) = true := by
        have h1 := Id_r.out.1
        have h2 := BF.out.rank
        rw [beq_iff_eq, h2, h1]
      have hWd : decide ((nb : Int) ≤ W) = true := by
        have h1 := Ib_r.out.1
        have h2 := BF.out.wide
        rw [decide_eq_true_iff]
        omega
      have hWl : (nb : Int) ≤ W := by simpa using hWd
      clear ht
      go_wp2_with fail
      refine (lawHas_w wr _ Ab nb cb LB Ib_r.out (Nat.le_trans HNb.out (by decide)) x zd HZb.out).mono ?_
      rintro e wq ⟨rfl, hbq⟩
      have HBq := Lib.hid (below_on HBr.out hbq)
      have In_q := Lib.hid (In_r.out.below hbq)
      clear hbq
      go_wp2_with fail
      refine (iRankB wq _ A n c its A' n' c' ns In_q.out x R HRk.out).mono ?_
      rintro e wp ⟨rfl, hbp⟩
      have HBp := Lib.hid (below_on HBq.out hbp)
      have In_p := Lib.hid (In_q.out.below hbp)
      clear hbp
      go_wp2_with fail
      refine (iWidth wp _ A n c its A' n' c' ns In_p.out W HWd.out).mono ?_
      rintro e wo ⟨rfl, hbo⟩
      have HBo := Lib.hid (below_on HBp.out hbo)
      clear hbo
      go_wp2
      go_ret
      exact ⟨rfl, HBo.out⟩
end Go.Proofs.Ytadjoiahllekdaa.num
