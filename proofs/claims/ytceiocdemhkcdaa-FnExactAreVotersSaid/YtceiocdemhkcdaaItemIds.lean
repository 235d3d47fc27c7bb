/-
  IdsOf, the model's and the program's: contracts.
-/
import Derived.Test.YtceiocdemhkcdaaItemMark
namespace Go.Proofs.Ytceiocdemhkcdaa.num
set_option maxRecDepth 20000
open Go.RowKit

def OwnI (w : World) (B : Nat) (v : Value) (l : List Int) : Prop := w.ownsRow B 3 1 v l.length (l.map (Value.int .i64))
theorem OwnI.empty (w : World) (B : Nat) (hB : B ≤ w.heap.size) : OwnI (w.alloc (.cells #[] 3)) B (.slice (some ⟨w.heap.size, 0, none⟩) 0 0) [] :=
  World.ownsRow_made w #[] 0 hB (Nat.zero_le _) (by simp)
theorem OwnI.ints {w : World} {B : Nat} {v : Value} {l : List Int} (h : OwnI w B v l) : ∃ A n c, v = .slice A n c ∧ Ints w w.heap.size A n l := by
  have h0 := h
  rcases h.2 with ⟨rfl, hl⟩ | ⟨g, cap, cur, rfl, _, hg, _⟩
  · obtain rfl : l = [] := List.eq_nil_of_length_eq_zero hl
    exact ⟨none, 0, 0, rfl, rfl, fun k hk => by omega⟩
  · refine ⟨some ⟨g, 0, none⟩, l.length, cap, rfl, rfl, fun k hk => ⟨g, 0, rfl, lt_of_block hg, ?_⟩⟩
    rw [Nat.zero_add, World.ownsRow.cellAt h0 k (by omega), List.getElem?_map, List.getD_eq_getElem?_getD, List.getElem?_eq_getElem hk]; rfl
/-- append of ints that the statement itself lists. -/
theorem wp_appI {ops : Array Oper} {rest : List Oper} {o : Oper} {a : Act} {Q : Exit → Act → World → Prop} (w : World) (hgd : o.guard = none) (s x : Operand)
    (ho : o.op = .call { callee := .builtin .append, args := #[s, x], argTypes := #[25, 25] })
    (B : Nat) (v : Value) (l : List Int) (hs : a.eval s = v) (hown : OwnI w B v l) (cs : Array Value) (new : List Int) (hcs : cs = (new.map (Value.int .i64)).toArray) (n c : Nat) (hn : n = new.length)
    (hx : a.eval x = .slice (some ⟨w.heap.size, 0, none⟩) n c) (hlen : (l.length + new.length) * 8 ≤ 140737488355328) (hB : B ≤ w.heap.size)
    (h : ∀ v' w', OwnI w' B v' (l ++ new) → Below B w w' → wpList Try.prog ops Q rest (a.put o.dst v') w') :
    wpList Try.prog ops Q (o :: rest) a (w.alloc (.cells cs 3)) := by
  obtain ⟨i0, hi, hz0, hz1, hz2⟩ := info_parts info_int
  subst hcs hn
  refine wpList_append_own _ hgd s x 25 ho B 3 i0 (.int .i64 0) 1 8 Try.underlying25 hi hz0 hz1 hz2 rfl (by decide) v l.length (l.map (Value.int .i64)) hs (World.ownsRow.alloc hown _) ⟨w.heap.size, 0, none⟩ new.length c (new.map (Value.int .i64)) hx (by simp) ?_ ?_ (by unfold maxLen; omega) (by omega) (by simp; omega) ?_
  · intro j u hj
    have e : (⟨w.heap.size, 0, none⟩ : Addr).add j = ⟨w.heap.size, j, none⟩ := by unfold Addr.add; split <;> simp_all
    rw [e, World.cell?_alloc_at _ _ _ _ rfl]
    simpa using hj
  · intro u hu
    obtain ⟨b, _, rfl⟩ := List.mem_map.1 hu
    rfl
  · intro v' w' hown' hg _
    refine h v' w' ?_ (((Below.refl B w).alloc hB _).grown hg (by simp; omega) (fun k hk => ?_))
    · have e : (l ++ new).length = l.length + new.length := by simp
      unfold OwnI
      rw [e, List.map_append]
      exact hown'
    · exact (World.ownsRow.lt hown k hk).1

def idL (its : List It) : List Int := its.map It.id
theorem idL_dat {its its' : List It} (h : its.map It.dat = its'.map It.dat) : idL its = idL its' := by
  have := congrArg (List.map Prod.fst) h
  simpa [idL, It.dat, Function.comp_def] using this
theorem idL_take {its : List It} {k : Nat} {t : It} (h : its[k]? = some t) : idL (its.take (k + 1)) = idL (its.take k) ++ [t.id] := by rw [take_at h]; simp [idL]
theorem idL_len (its : List It) : (idL its).length = its.length := by simp [idL]
theorem idL_get {its : List It} {k : Nat} {t : It} (h : its[k]? = some t) : (idL its).getD k 0 = t.id := by simp [idL, List.getD_eq_getElem?_getD, h]

theorem sIds (w : World) (B : Nat) (A : Option Addr) (n c : Nat) (its : List It) (hi : Items w B A n its) (hB : B ≤ w.heap.size) (hn : n ≤ 1048576) :
    Calls Try.prog 11 #[.slice A n c] w fun e w' => (∃ A' n' c', e = .returned (.slice A' n' c') ∧ Ints w' w'.heap.size A' n' (idL its)) ∧ Below w.heap.size w w' := by
  have HX := Lib.hid hi
  clear hi
  go_enter Try.func11, Try.ntmps11
  go_wp2
  go_loopw [3, 4] (fun v i wr => ∃ k : Nat, k ≤ n ∧ i = .int .i64 k ∧ OwnI wr w.heap.size v (idL (its.take k)) ∧ Below w.heap.size w wr) (fun _ i _ => n - (intOf i).toNat)
  case atStart => exact ⟨0, Nat.zero_le _, rfl, OwnI.empty w _ (Nat.le_refl _), (Below.refl _ _).alloc (Nat.le_refl _) _⟩
  case round =>
    obtain ⟨k, hk, rfl, hown, hbel⟩ := hrel
    have HO := Lib.hid hown
    have HB := Lib.hid hbel
    clear hown
    by_cases hlt : k < n
    · obtain ⟨b1, off, t, rfl, hb1, hat, hc1, _, _⟩ := HX.out.at k hlt
      have f1 := (hbel.cell (p := ⟨b1, off + k * 2, none⟩) (by exact Nat.lt_of_lt_of_le hb1 hB)).trans hc1
      have HAt := Lib.hid hat
      have H4 : Hid (((idL (its.take k)).length + [t.id].length) * 8 ≤ 140737488355328) := Lib.hid (by
        rw [idL_len, List.length_take]
        simp only [List.length_cons, List.length_nil]
        omega)
      clear hc1 hat hbel
      go_wp2_with (at_builtin; refine wp_appI wr (by rfl) (.tmp 12) (.tmp 18) (by rfl) w.heap.size _ _ (by rfl) HO.out _ [t.id] (by rfl) 1 1 rfl (by rfl) H4.out HB.out.size ?_)
      intro v1 w2 hown2 hb2
      have HO2 := Lib.hid hown2
      have HB2 := Lib.hid (HB.out.trans hb2)
      clear hown2 hb2 f1
      go_wp2
      go_roundw
      case rel => exact ⟨k + 1, by omega, by go_num, by rw [idL_take HAt.out]; exact HO2.out, HB2.out⟩
      case measure => simp [intOf]; omega
    · obtain rfl : k = n := by omega
      have HO' := HO.out
      rw [take_all HX.out.1] at HO'
      obtain ⟨A', n', c', rfl, hi'⟩ := HO'.ints
      have HI' := Lib.hid hi'
      clear hbel HO HO' hi'
      go_wp2
      go_ret
      exact ⟨⟨_, _, _, rfl, HI'.out⟩, HB.out⟩

theorem iIds (w : World) (B : Nat) (A : Option Addr) (n c : Nat) (its : List It) (hi : Items w B A n its) (hB : B ≤ w.heap.size) (hn : n ≤ 1048576) :
    Calls Try.prog 47 #[.slice A n c] w fun e w' => e = .returned (.slice (some ⟨w.heap.size, 0, none⟩) n n) ∧ IntRow w' w.heap.size (idL its) ∧ Below w.heap.size w w' := by
  have hmk := run_make_row' (P := Try.prog) 25 3 (.int .i64 0) 8 Try.underlying25 info_int rfl .i64 .i64 n (by omega) (by omega)
  have HX := Lib.hid hi
  clear hi
  go_enter Try.func47, Try.ntmps47
  go_wp2
  clear hmk
  go_loopw [11] (fun i wr => ∃ k : Nat, k ≤ n ∧ i = .int .i64 k ∧ wr.rowIs w.heap.size 3 n (fun j => if j < k then .int .i64 ((idL its).getD j 0) else .int .i64 0) ∧ Below w.heap.size w wr) (fun i _ => n - (intOf i).toNat)
  case atStart =>
    exact ⟨0, Nat.zero_le _, rfl, by simpa using World.rowIs_made w (.int .i64 0) n 3, (Below.refl _ _).alloc (Nat.le_refl _) _⟩
  case round =>
    obtain ⟨k, hk, rfl, hrow, hbel⟩ := hrel
    have HR := Lib.hid hrow
    have HB := Lib.hid hbel
    by_cases hlt : k < n
    · obtain ⟨b1, off, t, rfl, hb1, hat, hc1, hd1, _⟩ := HX.out.at k hlt
      have f1 := (hbel.cell (p := ⟨b1, off + k * 2, none⟩) (by exact Nat.lt_of_lt_of_le hb1 hB)).trans hc1
      have f2 := (hbel.cell (p := ⟨b1, off + k * 2 + 1, none⟩) (by exact Nat.lt_of_lt_of_le hb1 hB)).trans hd1
      have hl1 := World.rowIs.lt hrow
      have g1 : wr.cell? ⟨w.heap.size, k, none⟩ = some (.int .i64 0) := by rw [World.rowIs.cell hrow hlt, if_neg (by omega)]
      have g2 := World.rowIs.frozen hrow k
      have HAt := Lib.hid hat
      have hsz := Lib.hid hbel.size
      clear hrow hbel hc1 hd1 hat
      go_wp2
      go_roundw
      case rel =>
        refine ⟨k + 1, by omega, by go_num, ?_, ?_⟩
        · first
          | exact (World.rowIs.set (World.rowIs.alloc HR.out _) k (.int .i64 t.id)).congr (fun j _ => by rw [← idL_get HAt.out]; exact getD_prefix (idL its) k j)
          | exact (World.rowIs.alloc (World.rowIs.set HR.out k (.int .i64 t.id)) _).congr (fun j _ => by rw [← idL_get HAt.out]; exact getD_prefix (idL its) k j)
        · first
          | exact (HB.out.alloc hsz.out _).setCell (Nat.le_refl _) _
          | exact (HB.out.setCell (p := ⟨w.heap.size, k, none⟩) (Nat.le_refl _) _).alloc (by simp [World.setCell]; exact hsz.out) _
      case measure => simp [intOf]; omega
    · obtain rfl : k = n := by omega
      clear hrow hbel
      go_wp2
      go_ret
      refine ⟨rfl, ?_, HB.out⟩
      unfold IntRow
      rw [idL_len, HX.out.1]
      exact HR.out.congr (fun j hj => by rw [if_pos hj])
end Go.Proofs.Ytceiocdemhkcdaa.num
