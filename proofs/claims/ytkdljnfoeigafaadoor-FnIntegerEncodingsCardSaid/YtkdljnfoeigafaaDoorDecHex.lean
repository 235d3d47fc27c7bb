/-
  DecodeHex, the program's: contract.
-/
import Derived.Test.YtkdljnfoeigafaaDoorHexMath
namespace Go.Proofs.YtkdljnfoeigafaaDoor.num
open Go.RowKit

theorem hex_take (s : ByteArray) (k : Nat) (h : k < s.size) (ha : (s.data.toList.take k).all isHex = true) (h1 : isHex s[k] = true) :
    (s.data.toList.take (k + 1)).all isHex = true := by
  rw [take_snoc s k h, List.all_append, ha]; simp [h1]
theorem hex_bad_at (s : ByteArray) (j : Nat) (h : j < s.size) (hb : isHex s[j] = false) : unhexB s.data.toList = ⟨#[]⟩ ∧ unhexOk s.data.toList = false :=
  unhex_bad s.data.toList j (by rw [Array.length_toList]; exact h) (by simp; exact hb)
theorem hex_getD (s : ByteArray) (k : Nat) (h : k < s.size) : s.data.toList.getD k 0 = s[k] := by
  rw [List.getD_eq_getElem?_getD, List.getElem?_eq_getElem (by rw [Array.length_toList]; exact h)]
  simp; rfl

theorem own_iter {w : World} {base : Nat} {e : TypeId} {size g : Nat} {n c' : Nat} {xs : List Value} (h : w.ownsRow base e size (.slice (some ⟨g, 0, none⟩) n c') n xs) {k : Nat} (hk : g ≠ k) (s : ByteArray) (p : Nat) :
    (w.iterAt k s p).ownsRow base e size (.slice (some ⟨g, 0, none⟩) n c') n xs := by
  obtain ⟨h1, h2⟩ := h
  refine ⟨h1, ?_⟩
  rcases h2 with h2 | ⟨g', cap, cur, a, b, c, d⟩
  · exact .inl h2
  · obtain ⟨e1, _⟩ : g = g' ∧ c' = cap := by simpa using a
    subst e1
    exact .inr ⟨g, cap, cur, a, b, by rw [Lib.iterAt_other _ _ _ _ _ hk]; exact c, d⟩

set_option maxRecDepth 20000 in
set_option maxHeartbeats 400000 in
theorem iDecHex_even (s : ByteArray) (hs : s.size ≤ 1048576) (n : Nat) (hn : s.size = 2 * n) (w : World) :
    Calls Tryd.prog 16 #[.string s] w fun e w' => e = .returned (.tuple #[.string (unhexB s.data.toList), .bool (unhexOk s.data.toList)]) ∧ Below w.heap.size w w' := by
  obtain ⟨i0, hi, hz0, hz1, hz2⟩ := info_parts info_u8
  have hpar : ((s.size : Int) % 2 != 0) = false := by rw [bne_eq_false_iff_eq]; omega
  have hdiv : (s.size : Int) / 2 = (n : Int) := by omega
  have hn1 : s.size ≤ 2 * n := by omega
  have hn2 : 2 * n ≤ s.size := by omega
  have HN := Lib.hid hn
  clear hn
  go_enter Tryd.func16, Tryd.ntmps16
  go_wp2_with (with_reducible refine wpList_make_full _ rfl (.tmp 14) (.tmp 14) 22 rfl w.heap.size 5 i0 (.int .u8 0) 1 Tryd.underlying22 hi hz0 hz1 .i64 .i64 (n : Int) (n : Int) n rfl rfl rfl rfl ?c1 ?c2 (Nat.le_refl _) ?_)
  case c1 => rw [hz2]; omega
  case c2 => unfold maxLen; omega
  intro w1 hown hgr
  rw [hexCells_zero s.data.toList n] at hown
  have hbel : Below w.heap.size w w1 := (Below.refl _ _).grown hgr (Nat.le_refl _) (fun k hk => by cases hk)
  clear hdiv
  have hK : w.heap.size < w1.heap.size := (World.ownsRow.lt hown _ rfl).2
  go_wp2
  go_loopw [5] (fun _ wr => ∃ pos : Nat, pos ≤ s.size ∧ wr.heap[w1.heap.size]? = some (.stringIter s pos) ∧ wr.ownsRow w.heap.size 5 1 (.slice (some ⟨w.heap.size, 0, none⟩) n n) n (hexCells s.data.toList n pos) ∧ Hid ((s.data.toList.take pos).all isHex = true) ∧ Below w.heap.size w wr) (fun _ wr => s.size - wr.iterPos w1.heap.size)
  case atStart => exact ⟨0, Nat.zero_le _, World.iter_heap w1 s 0, World.ownsRow.alloc hown _, rfl, hbel.alloc (by omega) _⟩
  case round =>
    clear hown hbel hgr
    obtain ⟨pos, hp, hit, hown, HA, hbel⟩ := hrel
    have HI := Lib.hid hit
    by_cases hlt : pos < s.size
    · by_cases hlow : (s[pos]).toNat < 128
      · have hnext := fun ty => Lib.run_next_ascii_at (P := Tryd.prog) wr w1.heap.size s pos ty hit hlt hlow
        clear hit
        have hit1 := Lib.iterAt_heap wr _ _ pos (pos + 1) HI.out
        have hown1 := own_iter hown (show w.heap.size ≠ w1.heap.size by omega) s (pos + 1)
        have hbel1 := Lib.below_iterAt hbel (show w.heap.size ≤ w1.heap.size by omega) s (pos + 1)
        have hpos : (wr.iterPos w1.heap.size) = pos := by simp [World.iterPos, HI.out]
        have HPos := Lib.hid hpos
        clear hpos hown hbel
        cases hx : isHex s[pos]
        · have HU := Lib.hid (hex_bad_at s pos hlt hx)
          have hv := hexv_neg hx
          have HX := Lib.hid hx
          clear hx hown1 hit1
          go_wp2_with fail
          refine (idx_low s[pos].toNat hlow _).mono ?_
          rintro e wa ⟨rfl, rfl⟩
          go_wp2
          go_ret2
          refine ⟨?_, hbel1⟩
          rw [HU.out.1, HU.out.2]; rfl
        · have hv := hexv_pos hx
          have HX := Lib.hid hx
          clear hx
          go_wp2_with fail
          generalize wr.iterAt w1.heap.size s (pos + 1) = wi at *
          refine (idx_low s[pos].toNat hlow _).mono ?_
          rintro e wa ⟨rfl, rfl⟩
          have hh := hexn_le s[pos]
          have hc15 := hexAt_now s.data.toList pos
          have hcell : wi.cell? ⟨w.heap.size, pos / 2, none⟩ = some (.int .u8 (hexAt s.data.toList pos (pos / 2) : Int)) := by
            rw [hown1.cellAt (pos / 2) (by omega)]; exact hexCells_at _ _ _ _ (by omega)
          have hfr : wi.frozen? ⟨w.heap.size, pos / 2, none⟩ = false := hown1.frozenAt _
          have HO1 := Lib.hid hown1
          have HT1 := Lib.hid hit1
          clear hown1 hit1 hnext
          go_wp2
          have hT2 : (wi.setCell ⟨w.heap.size, pos / 2, none⟩ (.int .u8 ((hexAt s.data.toList pos (pos / 2) : Int) * 16 + (hexn s[pos] : Int)))).heap[w1.heap.size]? = some (.stringIter s (pos + 1)) :=
            (Below.heap_setCell wi _ _ w1.heap.size (show w1.heap.size ≠ w.heap.size by omega)).trans HT1.out
          go_roundw
          case rel => exact ⟨pos + 1, by omega, hT2, by
            rw [← hexCells_set s.data.toList n pos ((hexAt s.data.toList pos (pos / 2) : Int) * 16 + (hexn s[pos] : Int)) (by rw [hexAt_step, hex_getD s pos hlt]; omega)]
            exact (HO1.out.stored _ _).1, hex_take s pos hlt HA.out HX.out, hbel1.setCell (Nat.le_refl _) _⟩
          case measure =>
            have h2 := HPos.out
            have h3 : (wi.setCell ⟨w.heap.size, pos / 2, none⟩ (.int .u8 ((hexAt s.data.toList pos (pos / 2) : Int) * 16 + (hexn s[pos] : Int)))).iterPos w1.heap.size = pos + 1 := by simp [World.iterPos, hT2]
            omega
      · have hnext := fun ty => Lib.run_next_any_at (P := Tryd.prog) wr w1.heap.size s pos ty hit hlt
        have HU := Lib.hid (hex_bad_at s pos hlt (isHex_low (by omega)))
        have hd := decode_high s pos hlt (by omega)
        have hbel1 := Lib.below_iterAt hbel (show w.heap.size ≤ w1.heap.size by omega) s (pos + (Utf8.decode s pos).2)
        clear hit hown
        go_wp2_with fail
        refine (idx_high _ (by omega) _).mono ?_
        rintro e wa ⟨rfl, hb1⟩
        go_wp2
        go_ret2
        refine ⟨?_, hbel1.trans (hb1.mono hbel1.size)⟩
        rw [HU.out.1, HU.out.2]; rfl
    · have hnext := fun ty => Lib.run_next_end_at (P := Tryd.prog) wr w1.heap.size s pos ty hit hlt
      clear hit
      obtain rfl : pos = s.size := by omega
      have hA := HA.out
      rw [List.take_of_length_le (by rw [Array.length_toList]; exact Nat.le_refl _)] at hA
      obtain ⟨u1, u2⟩ := unhex_yes s.data.toList (by have := HN.out; rw [Array.length_toList]; show s.size % 2 = 0; omega) hA
      have HU := Lib.hid (And.intro u1 u2)
      have hlen : s.data.toList.length = 2 * n := by rw [Array.length_toList]; exact HN.out
      have hcv := fun C => run_convert_bytes_back (P := Tryd.prog) wr 22 9 5 ⟨w.heap.size, 0, none⟩ C (pairL s.data.toList) Tryd.underlying22 Tryd.underlying5 Tryd.underlying9 (fun j hj => by
        have hj' : j < n := by rw [pairL_len n _ hlen] at hj; exact hj
        rw [add_zero, hown.cellAt j (by omega), HN.out]
        exact hexCells_end s.data.toList n j hlen hj)
      rw [pairL_len n _ hlen] at hcv
      clear u1 u2 hA hlen hown
      go_wp2
      go_ret2
      refine ⟨?_, hbel⟩
      rw [HU.out.1, HU.out.2]; rfl

theorem iDecHex (s : ByteArray) (hs : s.size ≤ 1048576) (w : World) :
    Calls Tryd.prog 16 #[.string s] w fun e w' => e = .returned (.tuple #[.string (unhexB s.data.toList), .bool (unhexOk s.data.toList)]) ∧ Below w.heap.size w w' := by
  rcases Nat.mod_two_eq_zero_or_one s.size with h | h
  · exact iDecHex_even s hs (s.size / 2) (by omega) w
  · obtain ⟨u1, u2⟩ := unhex_odd s.data.toList (by rw [Array.length_toList]; show ¬ s.size % 2 = 0; omega)
    have hpar : ((s.size : Int) % 2 != 0) = true := by rw [bne_iff_ne]; omega
    rw [u1, u2]
    clear u1 u2 h
    go_enter Tryd.func16, Tryd.ntmps16
    go_wp2
    go_ret2
    exact ⟨rfl, Below.refl _ _⟩
end Go.Proofs.YtkdljnfoeigafaaDoor.num
