/-
  eqItemS: two slices of items compared by the law's own helper.
-/
import Derived.Test.YtceiocdemhkcdaaGreatItemCopy
namespace Go.Proofs.YtceiocdemhkcdaaGreat.num
set_option maxRecDepth 20000
open Go.RowKit

/-- A copy of the items its at block b, of the call's own, each slice short. -/
structure Copy (w : World) (b : Nat) (n : Nat) (its its' : List It) : Prop where
  fresh : Fresh w b its'
  dat : its'.map It.dat = its.map It.dat
  len : its'.length = n
  small : ∀ t ∈ its', t.n ≤ 1048576
theorem copy_of {w w0 : World} {B : Nat} {A : Option Addr} {b n : Nat} {its its' : List It} (_hn : n ≤ 1048576) (hN : ∀ t ∈ its, t.n ≤ 1048576) (hi : Items w0 B A n its) (hd : its'.map It.dat = its.map It.dat) (hf : Fresh w b its') : Copy w b n its its' :=
  ⟨hf, hd, by have := congrArg List.length hd; simpa [hi.1] using this, fun t ht => by
    obtain ⟨bk, _, _, h3, _, _⟩ := hf.own t ht
    have hm : t.dat ∈ its.map It.dat := hd ▸ List.mem_map.2 ⟨t, ht, rfl⟩
    obtain ⟨u, hu, he⟩ := List.mem_map.1 hm
    have hux : u.xs = t.xs := congrArg Prod.snd he
    obtain ⟨k, hk, rfl⟩ := List.getElem_of_mem hu
    obtain ⟨_, _, _, _, _, _, h5⟩ := hi.2 k hk
    rw [h3, ← hux, h5.1]
    exact hN _ hu⟩
theorem Copy.below {w w' : World} {b n : Nat} {its its' : List It} (h : Copy w b n its its') (hb : Below w.heap.size w w') : Copy w' b n its its' := ⟨h.fresh.below hb, h.dat, h.len, h.small⟩
theorem Copy.items {w : World} {b n : Nat} {its its' : List It} (h : Copy w b n its its') : Items w w.heap.size (some ⟨b, 0, none⟩) n its' := h.len ▸ h.fresh.items (Nat.le_refl _)
theorem bool_of (p : Prop) : ∃ b : Bool, b = true ↔ p := by
  by_cases h : p
  · exact ⟨true, by simp [h]⟩
  · exact ⟨false, by simp [h]⟩
theorem ne_len {α β : Type} {f : α → β} {l l' : List α} (h : l.length ≠ l'.length) : l.map f ≠ l'.map f := fun e => h (by simpa using congrArg List.length e)
theorem ne_dat {l l' : List It} {k : Nat} {t t' : It} (h1 : l[k]? = some t) (h2 : l'[k]? = some t') (h : t.dat ≠ t'.dat) : l.map It.dat ≠ l'.map It.dat := fun e => h (by
  have := congrArg (·[k]?) e
  simpa [h1, h2] using this)

theorem eqItems (w : World) (B : Nat) (A A' : Option Addr) (n n' c c' : Nat) (its its' : List It) (h1 : Items w B A n its) (h2 : Items w B A' n' its') (hB : B ≤ w.heap.size) (hn : n ≤ 1048576) (hN : ∀ t ∈ its, t.n ≤ 1048576)
    (b : Bool) (hb : b = true ↔ its.map It.dat = its'.map It.dat) :
    Calls Tryz.prog 39 #[.slice A n c, .slice A' n' c'] w fun e w' => e = .returned (.bool b) ∧ Below w.heap.size w w' := by
  have HX := Lib.hid h1
  have HY := Lib.hid h2
  have HN := Lib.hid hN
  by_cases hl : n = n'
  · subst hl
    have HBo := Lib.hid hb
    clear h1 h2 hN hb
    go_enter Tryz.func39, Tryz.ntmps39
    go_wp2
    go_loopw [5] (fun i wr => ∃ k : Nat, k ≤ n ∧ i = .int .i64 k ∧ (its.take k).map It.dat = (its'.take k).map It.dat ∧ Below w.heap.size w wr) (fun i _ => n - (intOf i).toNat)
    case atStart => exact ⟨0, Nat.zero_le _, rfl, rfl, Below.refl _ _⟩
    case round =>
      obtain ⟨k, hk, rfl, htake, hbel⟩ := hrel
      have HT := Lib.hid htake
      have HB := Lib.hid hbel
      clear htake
      by_cases hlt : k < n
      · obtain ⟨b1, off1, t1, rfl, hb1, hat1, hc1, hd1, hx1⟩ := HX.out.at k hlt
        obtain ⟨b2, off2, t2, rfl, hb2, hat2, hc2, hd2, hx2⟩ := HY.out.at k hlt
        have f1 := (hbel.cell (p := ⟨b1, off1 + k * 2, none⟩) (by exact Nat.lt_of_lt_of_le hb1 hB)).trans hc1
        have f2 := (hbel.cell (p := ⟨b1, off1 + k * 2 + 1, none⟩) (by exact Nat.lt_of_lt_of_le hb1 hB)).trans hd1
        have f3 := (hbel.cell (p := ⟨b2, off2 + k * 2, none⟩) (by exact Nat.lt_of_lt_of_le hb2 hB)).trans hc2
        have f4 := (hbel.cell (p := ⟨b2, off2 + k * 2 + 1, none⟩) (by exact Nat.lt_of_lt_of_le hb2 hB)).trans hd2
        have HI1 := Lib.hid (hx1.below (hbel.mono hB))
        have HI2 := Lib.hid (hx2.below (hbel.mono hB))
        have HA1 := Lib.hid hat1
        have HA2 := Lib.hid hat2
        have htn := Lib.hid (HN.out t1 (mem_of_at hat1))
        have hsz := Lib.hid hbel.size
        have hlt' : (k : Int) < (n : Int) := by omega
        obtain ⟨q, hq⟩ : ∃ q : Bool, q = true ↔ t1.dat = t2.dat := bool_of _
        have HQ := Lib.hid hq
        clear hc1 hd1 hc2 hd2 hx1 hx2 hat1 hat2 hbel hq
        have HI1' : Hid (Ints wr.drew B t1.A t1.n t1.xs) := HI1
        have HI2' : Hid (Ints wr.drew B t2.A t2.n t2.xs) := HI2
        have HB' : Hid (Below w.heap.size w wr.drew) := Lib.hid HB.out.drew
        have hsz' : Hid (w.heap.size ≤ wr.drew.heap.size) := hsz
        clear HI1 HI2 HB hsz
        go_wp2
        go_still_tail 8, (by kernel_rfl)
        change wpList _ _ _ _ _ wr.drew
        generalize wr.drew = w2 at *
        clear f1 f2 f3 f4
        go_wp2_with fail
        refine (eqItem_c w2 B t1 t2 HI1'.out HI2'.out (Nat.le_trans hB hsz'.out) htn.out q HQ.out).mono ?_
        rintro e w3 ⟨rfl, hb3⟩
        have HB3 := Lib.hid (HB'.out.trans (hb3.mono hsz'.out))
        clear hb3
        cases q
        · have HF := Lib.hid (ne_dat HA1.out HA2.out (fun e => by have := HQ.out.2 e; cases this))
          obtain rfl : b = false := by
            cases b
            · rfl
            · exact absurd (HBo.out.1 rfl) HF.out
          go_wp2
          go_ret
          exact ⟨rfl, HB3.out⟩
        · have HD := Lib.hid (HQ.out.1 rfl)
          go_wp2
          go_roundw
          case rel => exact ⟨k + 1, by omega, by go_num, by rw [take_at HA1.out, take_at HA2.out, List.map_append, List.map_append, HT.out, List.map_singleton, List.map_singleton, HD.out], HB3.out⟩
          case measure => simp [intOf]; omega
      · obtain rfl : k = n := by omega
        obtain rfl : b = true := HBo.out.2 (by have := HT.out; rwa [take_all HX.out.1, take_all HY.out.1] at this)
        clear hbel
        go_wp2
        go_ret
        exact ⟨rfl, HB.out⟩
  · obtain rfl : b = false := by
      cases b
      · rfl
      · exact absurd (hb.1 rfl) (ne_len (by rw [h1.1, h2.1]; exact hl))
    clear h1 h2 hb
    go_enter Tryz.func39, Tryz.ntmps39
    go_wp2
    go_ret
    exact ⟨rfl, Below.refl _ _⟩
end Go.Proofs.YtceiocdemhkcdaaGreat.num
