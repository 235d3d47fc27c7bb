/-
  EncodeHex, the program's and the model's: contracts.
-/
import Derived.Test.YtkdljnfoeigafaaDoorBytes
import Derived.Test.YtkdljnfoeigafaaDoorMath
import Derived.Deep.RegionLaw
import Derived.WalkSpells
import Derived.Laws.BitsAllLaws
namespace Go.Proofs.YtkdljnfoeigafaaDoor.num
open Go.RowKit

theorem step_app {ops : Array Oper} {o : Oper} {a : Act} {K : Act → World → Prop} {Q : Exit → Act → World → Prop} {E : Prop} (w : World) (hgd : o.guard = none) (s x : Operand)
    (ho : o.op = .call { callee := .builtin .append, args := #[s, x], argTypes := #[22, 22] })
    (B : Nat) (v : Value) (l : List UInt8) (hs : a.eval s = v) (hown : Own w B v l) (cs : Array Value) (new : List UInt8) (hcs : cs = (new.map bv).toArray) (n c : Nat) (hn : n = new.length)
    (hx : a.eval x = .slice (some ⟨w.heap.size, 0, none⟩) n c) (hlen : l.length + new.length ≤ 140737488355328) (hB : B ≤ w.heap.size)
    (h : ∀ v' w', Own w' B v' (l ++ new) → Below B w w' → K (a.put o.dst v') w') :
    if Region.wanted o (yielded ops a.tmps) = true then Oper.wp Tryd.prog o a (w.alloc (.cells cs 5)).drew K Q else E := by
  have hw : Region.wanted o (yielded ops a.tmps) = true := by simp [Region.wanted, hgd]
  rw [if_pos hw]
  obtain ⟨i0, hi, hz0, hz1, hz2⟩ := info_parts info_u8
  subst hcs hn
  refine wp_append_own _ s x 22 ho B 5 i0 (.int .u8 0) 1 1 Tryd.underlying22 hi hz0 hz1 hz2 rfl (by decide) v l.length (l.map bv) hs (World.ownsRow.drew (World.ownsRow.alloc hown _)) ⟨w.heap.size, 0, none⟩ new.length c (new.map bv) hx (by simp) ?_ ?_ (by unfold maxLen; omega) (by omega) (by simp; omega) ?_
  · intro j u hj
    rw [add_zero, World.cell?_drew, World.cell?_alloc_mark]
    simpa using hj
  · intro u hu
    obtain ⟨b, _, rfl⟩ := List.mem_map.1 hu
    rfl
  · intro v' w' hown' hg _
    refine h v' w' ?_ (((Below.refl B w).alloc hB _).drew.grown hg (by simp; omega) (fun k hk => ?_))
    · have e : (l ++ new).length = l.length + new.length := by simp
      unfold Own
      rw [e, List.map_append]
      exact hown'
    · exact (World.ownsRow.lt hown k hk).1

/-- A half byte as a digit. -/
def hexd (n : Nat) : UInt8 := (⟨#[48, 49, 50, 51, 52, 53, 54, 55, 56, 57, 97, 98, 99, 100, 101, 102]⟩ : ByteArray).data.getD n 0
def hexL (l : List UInt8) : List UInt8 := l.flatMap fun b => [hexd (b.toNat / 16), hexd (b.toNat % 16)]
theorem hexL_len (l : List UInt8) : (hexL l).length = 2 * l.length := by
  induction l with
  | nil => rfl
  | cons b l ih => simp only [hexL, List.flatMap_cons, List.length_append, List.length_cons, List.length_nil] at ih ⊢; omega
theorem hexL_snoc (l : List UInt8) (b : UInt8) : hexL (l ++ [b]) = hexL l ++ [hexd (b.toNat / 16), hexd (b.toNat % 16)] := by simp [hexL]

theorem hexL_step (s : ByteArray) (k : Nat) (h : k < s.size) (p q : Nat) (HP : Hid (s[k].toNat / 16 = p)) (HQ : Hid (s[k].toNat % 16 = q)) :
    hexL (s.data.toList.take (k + 1)) = hexL (s.data.toList.take k) ++ [hexd p, hexd q] := by
  rw [take_snoc s k h, hexL_snoc, HP.out, HQ.out]

theorem digits_get (n : Nat) (h : n < (⟨#[48, 49, 50, 51, 52, 53, 54, 55, 56, 57, 97, 98, 99, 100, 101, 102]⟩ : ByteArray).size) :
    (⟨#[48, 49, 50, 51, 52, 53, 54, 55, 56, 57, 97, 98, 99, 100, 101, 102]⟩ : ByteArray)[n] = hexd n := by
  have h16 : n < 16 := h
  unfold hexd
  rw [Array.getD_eq_getD_getElem?, Array.getElem?_eq_getElem (by exact h)]
  rfl
/-- The two halves of a byte. -/
theorem halves (x : Nat) (h : x < 256) : ∃ p q : Nat, p < 16 ∧ q < 16 ∧ Hid (x / 16 = p) ∧ Hid (x % 16 = q) ∧
    IntKind.u8.wrap ((x : Int) / 16) = (p : Int) ∧ IntKind.u8.wrap ((x : Int) % 16) = (q : Int) ∧ (x : Int).tmod 16 = (q : Int) ∧ IntKind.u8.wrap ((x : Int).tdiv 16) = (p : Int) := by
  have e1 : (x : Int).tmod 16 = (x : Int) % 16 := Int.tmod_eq_emod_of_nonneg (by omega)
  have e2 : (x : Int).tdiv 16 = (x : Int) / 16 := Int.tdiv_eq_ediv_of_nonneg (by omega)
  refine ⟨x / 16, x % 16, by omega, by omega, rfl, rfl, ?_, ?_, ?_, ?_⟩
  · rw [IntKind.wrap_u8']; omega
  · rw [IntKind.wrap_u8']; omega
  · rw [e1]; omega
  · rw [e2, IntKind.wrap_u8']; omega

theorem halves64 (x : Nat) (h : x < 256) : ∃ p q : Nat, p < 16 ∧ q < 16 ∧ Hid (x / 16 = p) ∧ Hid (x % 16 = q) ∧
    Hid (IntKind.i64.wrap (x : Int) = (x : Int) ∧ (x : Int).tdiv 16 = (p : Int) ∧ (x : Int).tmod 16 = (q : Int) ∧ (x : Int) / 16 = (p : Int) ∧ (x : Int) % 16 = (q : Int) ∧ IntKind.i64.wrap (p : Int) = (p : Int) ∧ IntKind.i64.wrap (q : Int) = (q : Int)) := by
  have e1 : (x : Int).tmod 16 = (x : Int) % 16 := Int.tmod_eq_emod_of_nonneg (by omega)
  have e2 : (x : Int).tdiv 16 = (x : Int) / 16 := Int.tdiv_eq_ediv_of_nonneg (by omega)
  exact ⟨x / 16, x % 16, by omega, by omega, rfl, rfl, IntWalk.i64_in _ ⟨by omega, by omega⟩, by omega, by omega, by omega, by omega, IntWalk.i64_in _ ⟨by omega, by omega⟩, IntWalk.i64_in _ ⟨by omega, by omega⟩⟩

set_option maxRecDepth 20000 in
theorem iEncHex (s : ByteArray) (hs : s.size ≤ 1048576) (w : World) :
    Calls Tryd.prog 15 #[.string s] w fun e w' => e = .returned (.string ⟨(hexL s.data.toList).toArray⟩) ∧ Below w.heap.size w w' := by
  obtain ⟨i0, hi, hz0, hz1, hz2⟩ := info_parts info_u8
  go_enter Tryd.func15, Tryd.ntmps15
  go_wp2_with (with_reducible refine wpList_make_own _ rfl _ (.tmp 7) 22 rfl w.heap.size 5 i0 (.int .u8 0) 1 Tryd.underlying22 hi hz0 hz1 .i64 .i64 _ (2 * s.size) rfl rfl (by simp) ?c1 ?c2 (Nat.le_refl _) ?_)
  case c1 => rw [hz2]; omega
  case c2 => unfold maxLen; omega
  intro w1 hown hgr
  have hbel : Below w.heap.size w w1 := (Below.refl _ _).grown hgr (Nat.le_refl _) (fun k hk => by cases hk)
  go_wp2
  go_loopw [3, 11] (fun v i wr => ∃ k : Nat, k ≤ s.size ∧ i = .int .i64 k ∧ Own wr w.heap.size v (hexL (s.data.toList.take k)) ∧ Below w.heap.size w wr) (fun _ i _ => s.size - (intOf i).toNat)
  case atStart => exact ⟨0, Nat.zero_le _, rfl, hown, hbel⟩
  case round =>
    clear hown hbel
    obtain ⟨k, hk, rfl, hown, hbel⟩ := hrel
    have HL := Lib.hid (hexL_len (s.data.toList.take k))
    by_cases hlt : k < s.size
    · have HO := Lib.hid hown
      clear hown
      have hb256 : s[k].toNat < 256 := (s[k]).toNat_lt
      obtain ⟨p, q, hp, hq, HP, HQ, f1, f2, f3, f4⟩ := halves s[k].toNat hb256
      have hp' : (p : Int) < 16 := by omega
      have hq' : (q : Int) < 16 := by omega
      have hdg := digits_get
      go_wp2
      have H4 : Hid ((hexL (s.data.toList.take k)).length + [hexd p, hexd q].length ≤ 140737488355328) := by
        have h1 := HL.out
        have h2 := List.length_take_le k s.data.toList
        show _ ≤ _
        rw [h1]
        simp only [List.length_cons, List.length_nil]
        omega
      go_region_law (refine step_app wr (by rfl) (.tmp 14) (.tmp 25) (by rfl) w.heap.size _ _ (by rfl) HO.out _ [hexd p, hexd q] (by rfl) 2 2 rfl (by rfl) H4.out hbel.size ?_; intro v1 w2 hown2 hb2)
      all_goals
        have HO2 := Lib.hid hown2
        clear hown2
        go_wp2
        go_roundw
        case rel => exact ⟨k + 1, by omega, by go_num, by rw [hexL_step s k hlt p q HP HQ]; exact HO2.out, hbel.trans hb2⟩
        case measure => simp [intOf]; omega
    · obtain rfl : k = s.size := by omega
      rw [List.take_of_length_le (by rw [Array.length_toList]; exact Nat.le_refl _)] at hown
      have hcv := own_string hown
      clear hown
      go_wp2
      go_ret
      exact ⟨rfl, hbel⟩

end Go.Proofs.YtkdljnfoeigafaaDoor.num
