/-
  The model's draws of numbers and texts.
-/
import Derived.Test.YtkdljnfoeigafaaDoorDraw
namespace Go.Proofs.YtkdljnfoeigafaaDoor.num
open Go.RowKit

def I64 (n : Int) : Prop := -9223372036854775808 ≤ n ∧ n ≤ 9223372036854775807
theorem I64.wrap (x : Int) : I64 (wrap64 x) := by unfold I64 wrap64; omega
/-- A row of seventeen or so numbers, each an int. -/
def Nums (w : World) (gl N : Nat) : Prop := ∀ k, k < N → ∃ z : Int, w.cell? ⟨gl, k, none⟩ = some (.int .i64 z) ∧ I64 z

set_option maxRecDepth 20000 in
theorem pick_any (gl N : Nat) (hN : 0 < N) (hN2 : N ≤ 100) (w : World) (g : Nat) (a : Option Addr) (len cap : Nat) (hlen : len ≤ 1048576) (hc : Cur w g a len cap) (B : Nat) (hB : B ≤ g) (hrow : Row w B a len) (hl : Nums w gl N) (hne : gl ≠ g) :
    Calls Tryd.prog 31 #[.pointer (some ⟨g, 0, none⟩), .slice (some ⟨gl, 0, none⟩) N N] w (Out I64 w g a len cap) := by
  have HC := Lib.hid hc
  have HR := Lib.hid hrow
  have HL := Lib.hid hl
  clear hc hrow hl
  go_enter Tryd.func31, Tryd.ntmps31
  go_wp2_with fail
  refine (below_any _ (by omega) _ g a len cap hlen HC.out B hB HR.out).mono ?_
  rintro e w1 ⟨x1, rfl, hx, hc1, hg1⟩
  have hx2 := hx.2 (by omega)
  obtain ⟨r, rfl⟩ := Int.eq_ofNat_of_zero_le hx2.1
  have hrN : r < N := by omega
  obtain ⟨z, hz, hzI⟩ := HL.out r hrN
  have hz1 : w1.cell? ⟨gl, r, none⟩ = some (.int .i64 z) := by
    have hlt := World.block_lt_of_cell? w _ hz
    exact (World.cell?_of_block (hg1.block gl hlt (fun e => by injection e; omega))).trans hz
  have HC1 := Lib.hid hc1
  have HG1 := Lib.hid hg1
  have HZ := Lib.hid hzI
  clear hc1 hg1 hzI hz hx hx2
  go_wp2
  go_ret
  exact ⟨z, rfl, HZ.out, HC1.out, HG1.out⟩

set_option maxRecDepth 20000 in
theorem num_any (w : World) (g : Nat) (a : Option Addr) (len cap : Nat) (hlen : len ≤ 1048576) (hc : Cur w g a len cap) (B : Nat) (hB : B ≤ g) (hrow : Row w B a len) :
    Calls Tryd.prog 22 #[.pointer (some ⟨g, 0, none⟩)] w (Out I64 w g a len cap) := by
  have HC := Lib.hid hc
  have HR := Lib.hid hrow
  clear hc hrow
  go_enter Tryd.func22, Tryd.ntmps22
  go_wp2_with fail
  refine (below_any _ (by omega) _ g a len cap hlen HC.out B hB HR.out).mono ?_
  rintro e w1 ⟨x, rfl, hx, hc1, hg1⟩
  have HC1 := Lib.hid hc1
  have hlt1 := hc1.lt
  have HR1 := Lib.hid (HR.out.below (grown_below hg1 hB (by have := HC.out.lt; omega)))
  have HG1 := Lib.hid hg1
  have hx2 := hx.2 (by omega)
  obtain ⟨hx3, hx4⟩ := hx2
  clear hc1 hg1 hx
  by_cases h0 : x = 0
  · subst h0
    go_wp2_with fail
    refine (pick_any w1.heap.size 17 (by omega) (by omega) _ g a len cap hlen (HC1.out.kept (Below.heap_alloc _ _ _ hlt1)) B hB (HR1.out.below ((Below.refl B w1).alloc (by omega) _)) ?_ (by omega)).mono ?_
    · intro k hk
      have hk' : k = 0 ∨ k = 1 ∨ k = 2 ∨ k = 3 ∨ k = 4 ∨ k = 5 ∨ k = 6 ∨ k = 7 ∨ k = 8 ∨ k = 9 ∨ k = 10 ∨ k = 11 ∨ k = 12 ∨ k = 13 ∨ k = 14 ∨ k = 15 ∨ k = 16 := by omega
      rcases hk' with rfl | rfl | rfl | rfl | rfl | rfl | rfl | rfl | rfl | rfl | rfl | rfl | rfl | rfl | rfl | rfl | rfl
      all_goals exact ⟨_, by rw [World.cell?_alloc_mark]; rfl, by unfold I64; omega⟩
    · rintro e w2 ⟨y, rfl, hy, hc2, hg2⟩
      have HY := Lib.hid hy
      have HC2 := Lib.hid hc2
      have HG2 := Lib.hid hg2
      clear hc2 hg2 hy
      go_wp2
      go_ret
      exact ⟨_, rfl, HY.out, HC2.out, grown_trans (grown_alloc HG1.out _) HG2.out⟩
  by_cases h1 : x = 1
  · subst h1
    go_wp2_with fail
    refine (below_any _ (by omega) _ g a len cap hlen HC1.out B hB HR1.out).mono ?_
    rintro e w2 ⟨y, rfl, _, hc2, hg2⟩
    have HC2 := Lib.hid hc2
    have HR2 := Lib.hid (HR1.out.below (grown_below hg2 hB (by omega)))
    have HG2 := Lib.hid hg2
    have hlt2 := hc2.lt
    clear hc2 hg2
    go_wp2_with fail
    refine (below_any _ (by omega) _ g a len cap hlen HC2.out B hB HR2.out).mono ?_
    rintro e w3 ⟨z, rfl, _, hc3, hg3⟩
    have HC3 := Lib.hid hc3
    have HG3 := Lib.hid hg3
    clear hc3 hg3
    go_wp2
    go_ret
    exact ⟨_, rfl, I64.wrap _, HC3.out, grown_trans HG1.out (grown_trans HG2.out HG3.out)⟩
  by_cases h2 : x = 2
  · subst h2
    go_wp2_with fail
    refine (below_any _ (by omega) _ g a len cap hlen HC1.out B hB HR1.out).mono ?_
    rintro e w2 ⟨y, rfl, hy, hc2, hg2⟩
    have hy2 := hy.2 (by omega)
    obtain ⟨hy3, hy4⟩ := hy2
    have HC2 := Lib.hid hc2
    have HG2 := Lib.hid hg2
    clear hc2 hg2 hy
    go_wp2
    go_ret
    exact ⟨_, rfl, by unfold I64; omega, HC2.out, grown_trans HG1.out HG2.out⟩
  · go_wp2_with fail
    refine (below_any _ (by omega) _ g a len cap hlen HC1.out B hB HR1.out).mono ?_
    rintro e w2 ⟨y, rfl, hy, hc2, hg2⟩
    have hy2 := hy.2 (by omega)
    obtain ⟨hy3, hy4⟩ := hy2
    have HC2 := Lib.hid hc2
    have HG2 := Lib.hid hg2
    clear hc2 hg2 hy
    go_wp2
    go_ret
    exact ⟨_, rfl, by unfold I64; omega, HC2.out, grown_trans HG1.out HG2.out⟩

/-- What a text's draw leaves. -/
def OutText (w : World) (g : Nat) (a : Option Addr) (len cap : Nat) (e : Ending) (w' : World) : Prop :=
  ∃ l : List UInt8, e = .returned (.string ⟨l.toArray⟩) ∧ l.length ≤ 40 ∧ Cur w' g a len cap ∧ Below g w w'
theorem Own.keptg {w w' : World} {B g : Nat} {v : Value} {l : List UInt8} (h : Own w B v l) (hg : w.grownBy w' (some g)) (hB : g < B) : Own w' B v l :=
  World.ownsRow.kept h hg (by
    by_cases hv : v.ownBlock = none
    · exact .inl hv
    · right
      intro e
      have := (World.ownsRow.lt h g e).1
      omega)
theorem byte_list (x : Int) (h0 : 0 ≤ x) (h1 : x ≤ 255) : #[Value.int .u8 x] = (List.map bv [UInt8.ofNat x.toNat]).toArray := by
  have h : (UInt8.ofNat x.toNat).toNat = x.toNat := by simp; omega
  simp only [List.map_cons, List.map_nil, bv, h]
  congr 3
  omega

set_option maxRecDepth 20000 in
set_option maxHeartbeats 400000 in
theorem text_any (w : World) (g : Nat) (a : Option Addr) (len cap : Nat) (hlen : len ≤ 1048576) (hc : Cur w g a len cap) (B : Nat) (hB : B ≤ g) (hrow : Row w B a len) :
    Calls Tryd.prog 23 #[.pointer (some ⟨g, 0, none⟩), .int .i64 40] w (OutText w g a len cap) := by
  have hlt0 := hc.lt
  have HC := Lib.hid (hc.kept (Below.heap_alloc w (.cells #[] 5) g hc.lt))
  have HR := Lib.hid (hrow.below ((Below.refl B w).alloc (by omega) (.cells #[] 5)))
  have HROW := Lib.hid hrow
  clear hc hrow
  go_enter Tryd.func23, Tryd.ntmps23
  go_wp2_with fail
  refine (below_any _ (by omega) _ g a len cap hlen HC.out B hB HR.out).mono ?_
  rintro e w1 ⟨st, rfl, hst, hc1, hg1⟩
  have hst2 := hst.2 (by omega)
  obtain ⟨hst3, hst4⟩ := hst2
  have hlt1 := hc1.lt
  have hsz1 := hg1.size
  have HC1 := Lib.hid hc1
  have HR1 := Lib.hid (HR.out.below (grown_below hg1 hB (by simp; omega)))
  have HG1 := Lib.hid hg1
  clear hc1 hg1 hst
  go_wp2_with fail
  refine (below_any _ (by omega) _ g a len cap hlen HC1.out B hB HR1.out).mono ?_
  rintro e w2 ⟨n, rfl, hn, hc2, hg2⟩
  have hn2 := hn.2 (by omega)
  obtain ⟨hn3, hn4⟩ := hn2
  have hsz2 := hg2.size
  have HC2 := Lib.hid hc2
  have HR2 := Lib.hid (HR1.out.below (grown_below hg2 hB (by omega)))
  have HG2 := Lib.hid (grown_trans (grown_alloc (grown_refl w (some g)) (.cells #[] 5)) (grown_trans HG1.out hg2))
  have HO2 := Lib.hid (((Own.empty w w.heap.size (Nat.le_refl _)).keptg HG1.out hlt0).keptg hg2 hlt0)
  clear hc2 hg2 hn HC1 HR1 HG1
  go_wp2
  obtain ⟨n, rfl⟩ := Int.eq_ofNat_of_zero_le hn3
  go_loopw [5, 7] (fun v nn wr => ∃ (m : Nat) (l : List UInt8), nn = .int .i64 m ∧ m + l.length ≤ 40 ∧ Own wr w.heap.size v l ∧ Cur wr g a len cap ∧ Below g w wr) (fun _ nn _ => (intOf nn).toNat)
  case atStart => exact ⟨n, [], rfl, by simp; omega, HO2.out, HC2.out, grown_below HG2.out (Nat.le_refl _) (by omega)⟩
  case round =>
    obtain ⟨m, l, rfl, hml, hown, hcur, hbel⟩ := hrel
    have HO := Lib.hid hown
    have HC := Lib.hid hcur
    have HB := Lib.hid hbel
    have hsz := hbel.size
    have hltr := hcur.lt
    clear hown hcur hbel HO2 HC2 HG2 HR2
    by_cases hm : 0 < m
    · obtain ⟨m, rfl⟩ : ∃ i, m = i + 1 := ⟨m - 1, by omega⟩
      go_wp2_with fail
      refine (byte_any _ g a len cap hlen HC.out B hB (HROW.out.below (HB.out.mono hB))).mono ?_
      rintro e w3 ⟨x, rfl, ⟨hx0, hx1⟩, hc3, hg3⟩
      have HC3 := Lib.hid hc3
      have HO3 := Lib.hid (HO.out.keptg hg3 hlt0)
      have HBG := Lib.hid (HB.out.trans (grown_below hg3 (Nat.le_refl _) (by omega)))
      have H4 : ∀ b : UInt8, Hid (l.length + [b].length ≤ 140737488355328) := fun b => by show _ ≤ _; simp; omega
      have H5 : Hid (w.heap.size ≤ w3.heap.size) := Nat.le_trans hsz hg3.size
      clear hc3 hg3
      by_cases hs1 : st = 1
      · subst hs1
        have HX1 : Hid (0 ≤ (x % 2) ∧ (x % 2) ≤ 255) := ⟨by omega, by omega⟩
        go_wp2_with (at_builtin; refine wp_app w3 (by rfl) (.tmp 31) (.tmp 34) (by rfl) w.heap.size _ l (by rfl) HO3.out _ [UInt8.ofNat ((x % 2)).toNat] (byte_list ((x % 2)) HX1.out.1 HX1.out.2) 1 1 rfl (by rfl) (H4 _).out H5.out ?_)
        intro v4 w4 hown4 hb4
        have HO4 := Lib.hid hown4
        have HB4 := Lib.hid hb4
        clear hown4 hb4
        go_wp2
        go_roundw
        case rel => exact ⟨m, _, by go_num, by simp; omega, HO4.out, HC3.out.kept (HB4.out.block g hlt0), HBG.out.trans (HB4.out.mono (by omega))⟩
        case measure => simp [intOf]
      by_cases hs2 : st = 2
      · subst hs2
        have HX1 : Hid (0 ≤ (97 + x % 4) ∧ (97 + x % 4) ≤ 255) := ⟨by omega, by omega⟩
        go_wp2_with (at_builtin; refine wp_app w3 (by rfl) (.tmp 31) (.tmp 34) (by rfl) w.heap.size _ l (by rfl) HO3.out _ [UInt8.ofNat ((97 + x % 4)).toNat] (byte_list ((97 + x % 4)) HX1.out.1 HX1.out.2) 1 1 rfl (by rfl) (H4 _).out H5.out ?_)
        intro v4 w4 hown4 hb4
        have HO4 := Lib.hid hown4
        have HB4 := Lib.hid hb4
        clear hown4 hb4
        go_wp2
        go_roundw
        case rel => exact ⟨m, _, by go_num, by simp; omega, HO4.out, HC3.out.kept (HB4.out.block g hlt0), HBG.out.trans (HB4.out.mono (by omega))⟩
        case measure => simp [intOf]
      · 
        have HX1 : Hid (0 ≤ x ∧ x ≤ 255) := ⟨by omega, by omega⟩
        go_wp2_with (at_builtin; refine wp_app w3 (by rfl) (.tmp 31) (.tmp 34) (by rfl) w.heap.size _ l (by rfl) HO3.out _ [UInt8.ofNat (x).toNat] (byte_list (x) HX1.out.1 HX1.out.2) 1 1 rfl (by rfl) (H4 _).out H5.out ?_)
        intro v4 w4 hown4 hb4
        have HO4 := Lib.hid hown4
        have HB4 := Lib.hid hb4
        clear hown4 hb4
        go_wp2
        go_roundw
        case rel => exact ⟨m, _, by go_num, by simp; omega, HO4.out, HC3.out.kept (HB4.out.block g hlt0), HBG.out.trans (HB4.out.mono (by omega))⟩
        case measure => simp [intOf]
    · obtain rfl : m = 0 := by omega
      have hcv := own_string HO.out
      go_wp2
      go_ret
      exact ⟨l, rfl, by omega, HC.out, HB.out⟩
end Go.Proofs.YtkdljnfoeigafaaDoor.num
