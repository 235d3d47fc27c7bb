/- Contracts of functions that the laws of this chapter call, packed. -/
import Derived.Test.YtadjoiahllekdaaGreatDoorItemOpen
import Derived.Test.YtadjoiahllekdaaGreatDoorPairText
import Derived.Deep.Strs
import Derived.LaidLaws
import Derived.Test.YtadjoiahllekdaaGreatDoorWishSpecB
import Derived.Test.YtadjoiahllekdaaGreatDoorProg
import Derived.WalkKit
import Derived.Lib.Hide
import Derived.Maps.RangeWalk
import Derived.Maps.Ext
import Derived.Laws.IdiomRangeMap
import Derived.Test.YtadjoiahllekdaaGreatDoorPairSpecC
import Derived.Deep.Cut
import Derived.Test.YtadjoiahllekdaaGreatDoorPairSpecD
import Derived.Test.YtadjoiahllekdaaGreatDoorRegion
import Derived.Test.YtadjoiahllekdaaGreatDoorWishSpecC
import Derived.Test.YtadjoiahllekdaaGreatDoorExpSpec
import Derived.Lib.SplitLaws
import Derived.Test.YtadjoiahllekdaaGreatDoorWishSpec
import Derived.Test.YtadjoiahllekdaaGreatDoorParseMath
import Derived.Test.YtadjoiahllekdaaGreatDoorItoa
import Derived.Lib.OthersKept
import Derived.Lib.DecodeN
import Derived.WalkSpells
import Derived.Test.YtadjoiahllekdaaGreatDoorPieceMath
namespace Go.Proofs.YtadjoiahllekdaaGreatDoor.num
set_option maxRecDepth 20000
open Go.RowKit Go.ChangeShapes Go.WideShapes Go.Deep
set_option linter.unusedVariables false

/-- The five words. -/
def kwT : List (List UInt8) := [[108, 111, 119], [104, 105, 103, 104], [110, 101, 97, 114], [97, 109, 111, 110, 103], [111, 114, 100, 101, 114]]
def kwB (i : Nat) : ByteArray := ⟨(kwT.getD i []).toArray⟩
theorem gKw : Tryz.prog.globalNamed "loop.example/g01987/impl.kindWords" = some 0 := by kernel_rfl
theorem gKwType : (Tryz.prog.globals[0]?).map (·.type) = some 86 := by kernel_rfl
theorem cellsStr : Tryz.prog.cellsOf 9 = 1 := by kernel_rfl
/-- The variable holds them. -/
def Kw (w : World) : Prop := ∃ (b off c : Nat), w.cell? ⟨0, 0, none⟩ = some (.slice (some ⟨b, off, none⟩) 5 c) ∧ 0 < w.heap.size ∧ b < w.heap.size ∧ ∀ i, i < 5 → w.cell? ⟨b, off + i, none⟩ = some (.string (kwB i))
theorem Kw.below {w w' : World} (h : Kw w) (hb : Below w.heap.size w w') : Kw w' := by
  obtain ⟨b, off, c, h1, h2, h3, h4⟩ := h
  exact ⟨b, off, c, (hb.cell (p := ⟨0, 0, none⟩) h2).trans h1, Nat.lt_of_lt_of_le h2 hb.size, Nat.lt_of_lt_of_le h3 hb.size, fun i hi => (hb.cell (p := ⟨b, off + i, none⟩) h3).trans (h4 i hi)⟩
theorem kw_of {W : World} {rest : List (String × DataW Unit)} (h : laidMet Tryz.prog (("loop.example/g01987/impl.kindWords", .slice (kwT.map fun l => .lit (.string l)) []) :: rest) W) : Kw W := by
  obtain ⟨ps, ⟨g', t', cs, fuel, p, q, hg', ht', hvar, hd, _, _⟩, _⟩ := h
  obtain rfl := Option.some.inj (gKw.symm.trans hg')
  obtain rfl := Option.some.inj (gKwType.symm.trans ht')
  rcases open_strs Tryz.underlying86 Tryz.underlying9 cellsStr hd with ⟨hc, hx⟩ | ⟨a, len, cap, m, Sx, hc, _, hl, hm, hmm, hx, hcell⟩
  · simp at hx
  · simp only [Prod.mk.injEq, DataW.slice.injEq] at hx
    obtain ⟨⟨e1, e2⟩, _⟩ := hx
    have hlen : len = 5 := by
      have := congrArg List.length e1
      simpa [kwT] using this.symm
    subst hlen
    have hS : ∀ i, i < 5 → Sx i = kwB i := fun i hi => by
      have h1 := congrArg (fun l => l[i]?) e1
      simp only [List.getElem?_map, List.getElem?_range hi, Option.map_some] at h1
      have h2 : kwT[i]? = some (kwT.getD i []) := by
        rw [List.getD_eq_getElem?_getD, List.getElem?_eq_getElem (by simpa [kwT] using hi)]; rfl
      rw [h2] at h1
      simp only [Option.map_some, Option.some.injEq, DataW.lit.injEq, Lit.string.injEq] at h1
      apply bytes_ext
      unfold kwB
      simpa using h1.symm
    have hm5 : 5 ≤ m := by rw [hmm]; split <;> omega
    obtain ⟨b, off, rfl, hb, h0⟩ := add_flat (hcell 0 (by omega)).1 (hcell 0 (by omega)).1
    have hg0 : W.cell? ⟨0, 0, none⟩ = some (.slice (some ⟨b, off, none⟩) 5 cap) := by
      rw [World.var?_cell gKw hvar 0]
      have : cs = #[.slice (some ⟨b, off, none⟩) 5 cap] := by
        apply Array.ext'
        simpa using hc
      rw [this]; rfl
    refine ⟨b, off, cap, hg0, World.block_lt_of_cell? W _ hg0, hb, fun i hi => ?_⟩
    obtain ⟨b', off', e, _, h1⟩ := add_flat (hcell 0 (by omega)).1 (hcell i (by omega)).1
    injection e with e3 e4
    subst e3 e4
    rw [h1, hS i hi]
end Go.Proofs.YtadjoiahllekdaaGreatDoor.num
namespace Go.Proofs.YtadjoiahllekdaaGreatDoor.num
set_option maxRecDepth 20000
open Go.RowKit Go.ChangeShapes Go.WideShapes Go.Deep
set_option linter.unusedVariables false

/-- The five words. -/
def owT : List (List UInt8) := [[], [97, 110, 100], [116, 104, 101, 110], [110, 111, 116], [98, 111, 116, 104]]
def owB (i : Nat) : ByteArray := ⟨(owT.getD i []).toArray⟩
theorem gOw : Tryz.prog.globalNamed "loop.example/g01987/impl.opWords" = some 1 := by kernel_rfl
theorem gOwType : (Tryz.prog.globals[1]?).map (·.type) = some 86 := by kernel_rfl
/-- The variable holds them. -/
def Ow (w : World) : Prop := ∃ (b off c : Nat), w.cell? ⟨1, 0, none⟩ = some (.slice (some ⟨b, off, none⟩) 5 c) ∧ 1 < w.heap.size ∧ b < w.heap.size ∧ ∀ i, i < 5 → w.cell? ⟨b, off + i, none⟩ = some (.string (owB i))
theorem Ow.below {w w' : World} (h : Ow w) (hb : Below w.heap.size w w') : Ow w' := by
  obtain ⟨b, off, c, h1, h2, h3, h4⟩ := h
  exact ⟨b, off, c, (hb.cell (p := ⟨1, 0, none⟩) h2).trans h1, Nat.lt_of_lt_of_le h2 hb.size, Nat.lt_of_lt_of_le h3 hb.size, fun i hi => (hb.cell (p := ⟨b, off + i, none⟩) h3).trans (h4 i hi)⟩
theorem ow_of {W : World} {rest : List (String × DataW Unit)} (h : laidMet Tryz.prog (("loop.example/g01987/impl.opWords", .slice (owT.map fun l => .lit (.string l)) []) :: rest) W) : Ow W := by
  obtain ⟨ps, ⟨g', t', cs, fuel, p, q, hg', ht', hvar, hd, _, _⟩, _⟩ := h
  obtain rfl := Option.some.inj (gOw.symm.trans hg')
  obtain rfl := Option.some.inj (gOwType.symm.trans ht')
  rcases open_strs Tryz.underlying86 Tryz.underlying9 cellsStr hd with ⟨hc, hx⟩ | ⟨a, len, cap, m, Sx, hc, _, hl, hm, hmm, hx, hcell⟩
  · simp at hx
  · simp only [Prod.mk.injEq, DataW.slice.injEq] at hx
    obtain ⟨⟨e1, e2⟩, _⟩ := hx
    have hlen : len = 5 := by
      have := congrArg List.length e1
      simpa [owT] using this.symm
    subst hlen
    have hS : ∀ i, i < 5 → Sx i = owB i := fun i hi => by
      have h1 := congrArg (fun l => l[i]?) e1
      simp only [List.getElem?_map, List.getElem?_range hi, Option.map_some] at h1
      have h2 : owT[i]? = some (owT.getD i []) := by
        rw [List.getD_eq_getElem?_getD, List.getElem?_eq_getElem (by simpa [owT] using hi)]; rfl
      rw [h2] at h1
      simp only [Option.map_some, Option.some.injEq, DataW.lit.injEq, Lit.string.injEq] at h1
      apply bytes_ext
      unfold owB
      simpa using h1.symm
    have hm5 : 5 ≤ m := by rw [hmm]; split <;> omega
    obtain ⟨b, off, rfl, hb, h0⟩ := add_flat (hcell 0 (by omega)).1 (hcell 0 (by omega)).1
    have hg0 : W.cell? ⟨1, 0, none⟩ = some (.slice (some ⟨b, off, none⟩) 5 cap) := by
      rw [World.var?_cell gOw hvar 0]
      have : cs = #[.slice (some ⟨b, off, none⟩) 5 cap] := by
        apply Array.ext'
        simpa using hc
      rw [this]; rfl
    refine ⟨b, off, cap, hg0, World.block_lt_of_cell? W _ hg0, hb, fun i hi => ?_⟩
    obtain ⟨b', off', e, _, h1⟩ := add_flat (hcell 0 (by omega)).1 (hcell i (by omega)).1
    injection e with e3 e4
    subst e3 e4
    rw [h1, hS i hi]
end Go.Proofs.YtadjoiahllekdaaGreatDoor.num
namespace Go.Proofs.YtadjoiahllekdaaGreatDoor.num
set_option maxRecDepth 20000
open Go.RowKit
set_option linter.unusedVariables false

def intsT (l : List Int) : List UInt8 := Lib.join (l.map Lib.itoa) [44]
def preI (l : List Int) (k : Nat) : ByteArray := ⟨(intsT (l.take k)).toArray⟩
theorem preI_list (l : List Int) (k : Nat) : (preI l k).data.toList = intsT (l.take k) := rfl
theorem preI_zero (l : List Int) : preI l 0 = ⟨#[]⟩ := rfl
theorem preI_one {l : List Int} {x : Int} (h : l[0]? = some x) : (⟨#[]⟩ : ByteArray) ++ fmtB x = preI l 1 := by
  apply bytes_ext
  rw [preI_list, ptake_at (k := 0) h]
  simp [intsT, Lib.join_one, fmtB, ByteArray.data_append]
theorem preI_step {l : List Int} {k : Nat} {x : Int} (hk : 0 < k) (h : l[k]? = some x) : preI l k ++ ⟨#[44]⟩ ++ fmtB x = preI l (k + 1) := by
  have hlt : k < l.length := (List.getElem?_eq_some_iff.1 h).1
  apply bytes_ext
  rw [preI_list, ptake_at h]
  unfold intsT
  rw [List.map_append, List.map_cons, List.map_nil, join_snoc _ _ _ (by
    intro e
    have := congrArg List.length e
    rw [List.length_map, List.length_take, List.length_nil] at this
    omega)]
  simp [preI, intsT, fmtB, ByteArray.data_append]
theorem intsT_len {l : List Int} (h : ∀ v ∈ l, InR v) : (intsT l).length ≤ 3 * l.length := by
  have h1 := join_le (m := 2) 44 (l.map Lib.itoa) fun x hx => by
    obtain ⟨v, hv, rfl⟩ := List.mem_map.1 hx
    exact itoa_small (h v hv)
  rw [List.length_map] at h1
  unfold intsT
  omega
theorem preI_small {l : List Int} (h : ∀ v ∈ l, InR v) (k : Nat) : (preI l k).size ≤ 3 * k := by
  have h1 := intsT_len (l := l.take k) fun v hv => h v (List.mem_of_mem_take hv)
  have h2 : (preI l k).size = (intsT (l.take k)).length := by simp [preI, ByteArray.size]
  have h3 : (l.take k).length ≤ k := by rw [List.length_take]; omega
  omega
/-- What stands behind the field. -/
def restT (d : WD) : List UInt8 := if d.kind = 2 then 32 :: Lib.itoa d.value else if d.kind = 3 then 32 :: intsT d.ls else if d.kind = 4 then 32 :: pairsT d.ps else []
def wishT (d : WD) : List UInt8 := kwT.getD d.kind.toNat [] ++ 32 :: 102 :: (Lib.itoa d.field ++ restT d)
/-- What FormatWish answers. -/
def fmtW (d : WD) (q : Bool) : ByteArray := if q then ⟨(wishT d).toArray⟩ else ⟨#[]⟩
end Go.Proofs.YtadjoiahllekdaaGreatDoor.num
namespace Go.Proofs.YtadjoiahllekdaaGreatDoor.num
set_option maxRecDepth 20000
open Go.RowKit Go.Maps
set_option linter.unusedVariables false

def kI (v : Int) : Lit := .int .i64 v
theorem kI_inj {u v : Int} (h : kI u = kI v) : u = v := by unfold kI at h; injection h
theorem kI_key (v : Int) : WideAt.IsKeyLit (kI v) := trivial
theorem kI_same (u v : Int) : (kI u).sameKey (kI v) = (u == v) := by
  by_cases h : u = v
  · subst h
    rw [WideAt.sameKey_self (kI_key u)]
    simp
  · rw [sameKey_ne (fun e => h (kI_inj e))]
    simpa using h
/-- D's elements, key by key. -/
def Reads (D : DataW Unit) (f : Int → Option (DataW Unit)) : Prop := ∀ v : Int, (Lit.int .i64 v).wf = true → ∀ z, D.atKey (kI v) z = (f v).getD z
theorem Reads.has {D : DataW Unit} {f : Int → Option (DataW Unit)} (h : Reads D f) {v : Int} (hv : (Lit.int .i64 v).wf = true) : Maps.has D (kI v) = (f v).isSome := by
  cases e : f v with
  | none => exact has_false_of_atKey fun z => by rw [h v hv z, e]; rfl
  | some d => exact has_true_of_atKey fun z => by rw [h v hv z, e]; rfl
theorem Reads.of_at {D : DataW Unit} {f : Int → Option (DataW Unit)} (h : Reads D f) {v : Int} (hv : (Lit.int .i64 v).wf = true) {d : DataW Unit} (hat : ∀ z, D.atKey (kI v) z = d) : f v = some d := by
  cases e : f v with
  | none =>
    have h1 := (h v hv .nil).symm.trans (hat .nil)
    have h2 := (h v hv (.lit (.bool true))).symm.trans (hat _)
    rw [e] at h1 h2
    simp at h1 h2
    rw [← h1] at h2; cases h2
  | some d' =>
    have h1 := (h v hv .nil).symm.trans (hat .nil)
    rw [e] at h1
    simp at h1
    rw [h1]
theorem Reads.congr {D : DataW Unit} {f g : Int → Option (DataW Unit)} (h : Reads D f) (e : ∀ v, (Lit.int .i64 v).wf = true → f v = g v) : Reads D g := fun v hv z => by rw [← e v hv]; exact h v hv z
theorem Reads.put {D : DataW Unit} {f : Int → Option (DataW Unit)} (h : Reads D f) (hm : IsMap D) (v : Int) (d : DataW Unit) : Reads (D.put (kI v) d) (fun x => if x = v then some d else f x) := fun x hx z => by
  by_cases e : x = v
  · subst e
    rw [atKey_put_same hm (kI_key _)]
    show _ = (if x = x then some d else f x).getD z
    rw [if_pos rfl]; rfl
  · rw [atKey_put_other (fun e' => e (kI_inj e'))]
    show _ = (if x = v then some d else f x).getD z
    rw [if_neg e]; exact h x hx z
theorem Reads.del {D : DataW Unit} {f : Int → Option (DataW Unit)} (h : Reads D f) (v : Int) : Reads (D.del (kI v)) (fun x => if x = v then none else f x) := fun x hx z => by
  by_cases e : x = v
  · subst e
    rw [atKey_del_same]
    show _ = (if x = x then none else f x).getD z
    rw [if_pos rfl]; rfl
  · rw [atKey_del_other (fun e' => e (kI_inj e'))]
    show _ = (if x = v then none else f x).getD z
    rw [if_neg e]; exact h x hx z

section
variable {P : Program} {k : TypeId} {R : Value → Option (DataW Unit × List MemPlace)} {w w' : World} {b n : Nat} {f : Int → Option (DataW Unit)}
/-- Block b is a map of at most n entries that holds f. -/
def MapAt (P : Program) (k : TypeId) (R : Value → Option (DataW Unit × List MemPlace)) (w : World) (b n : Nat) (f : Int → Option (DataW Unit)) : Prop := ∃ D, w.ownsMap P k R b n D ∧ Reads D f
theorem MapAt.lt (h : MapAt P k R w b n f) : b < w.heap.size := by obtain ⟨D, h, _⟩ := h; exact h.lt
theorem MapAt.mono (h : MapAt P k R w b n f) {m : Nat} (hm : n ≤ m) : MapAt P k R w b m f := by obtain ⟨D, h, r⟩ := h; exact ⟨D, h.mono hm, r⟩
theorem MapAt.block (h : MapAt P k R w b n f) (hb : w'.heap[b]? = w.heap[b]?) : MapAt P k R w' b n f := by
  obtain ⟨D, ⟨es, clock, h1, h2⟩, r⟩ := h
  exact ⟨D, ⟨es, clock, hb.trans h1, h2⟩, r⟩
theorem MapAt.kept {row : Option Nat} (h : MapAt P k R w b n f) (hg : w.grownBy w' row) (hne : some b ≠ row) : MapAt P k R w' b n f := h.block (hg.block b h.lt hne)
theorem MapAt.alloc (h : MapAt P k R w b n f) (o : Obj) : MapAt P k R (w.alloc o) b n f := h.block (Below.heap_alloc _ _ _ h.lt)
theorem MapAt.congr (h : MapAt P k R w b n f) {g : Int → Option (DataW Unit)} (e : ∀ v, (Lit.int .i64 v).wf = true → f v = g v) : MapAt P k R w b n g := by obtain ⟨D, h, r⟩ := h; exact ⟨D, h, r.congr e⟩
theorem MapAt.made (w : World) : MapAt P k R (w.alloc (.map #[] 0)) w.heap.size 0 (fun _ => none) := ⟨.map [], World.ownsMap_made w P k R, fun _ _ _ => rfl⟩
/-- m[v]. -/
theorem MapAt.look {t e : TypeId} (h : MapAt P k R w b n f) (K : Keyed P k) (hk : P.underlying k = some (.int .i64)) (ht : P.underlying t = some (.map k e)) {z : Value} (hz : (zeroValue e).run P w = .ok z w) {zd : DataW Unit} {zp : List MemPlace} (hzd : R z = some (zd, zp)) {v : Int} (hv : (Lit.int .i64 v).wf = true) :
    ∃ val ps, (Instr.lookup t (.map (some b)) (.int .i64 v) false).run P w = .ok val w ∧ R val = some ((f v).getD zd, ps) := by
  obtain ⟨D, h, r⟩ := h
  obtain ⟨val, ps, h1, h2⟩ := h.lookup K ht hz hzd (kl := kI v) (keyOf_int_mk hk hv)
  exact ⟨val, ps, h1, by rw [h2, r v hv]⟩
/-- len(m) is 0 just where nothing is held. -/
theorem MapAt.len {t e : TypeId} (h : MapAt P k R w b n f) (hk : P.underlying k = some (.int .i64)) (K : Keyed P k) (ht : P.underlying t = some (.map k e)) (ty : TypeId) :
    ∃ m : Nat, (Builtin.len_ #[t] ty #[.map (some b)]).run P w = .ok (.int .i64 m) w ∧ (m = 0 ↔ ∀ v : Int, (Lit.int .i64 v).wf = true → f v = none) := by
  obtain ⟨D, h, r⟩ := h
  refine ⟨Maps.size D, h.len ht ty, ?_⟩
  obtain ⟨es, clock, hb, F, hs, rfl⟩ := h
  constructor
  · intro h0 v hv
    have hn := r.has hv
    have he : (es.toList.map (WideElems.rg P k R)).foldr DataW.insert [] = [] := List.eq_nil_of_length_eq_zero h0
    rw [he] at hn
    cases e : f v
    · rfl
    · rw [e] at hn; cases hn
  · intro hall
    refine Classical.byContradiction fun hne => ?_
    have : es.toList ≠ [] := fun e => hne (by rw [e]; rfl)
    obtain ⟨x, l, hx⟩ := List.exists_cons_of_ne_nil this
    have hxm : x ∈ es.toList := by rw [hx]; simp
    obtain ⟨y, hy⟩ := F.reads x hxm
    have hkey := WideElems.rd_key hy
    obtain ⟨v, _, hkl, hv⟩ := keyOf_int_inv hk hkey
    have h1 := r.has hv
    rw [hall v hv] at h1
    have h2 : Maps.has (.map ((es.toList.map (WideElems.rg P k R)).foldr DataW.insert [])) (kI v) = true := by
      refine List.any_eq_true.2 ⟨WideElems.rg P k R x, mem_sorted.2 (List.mem_map.2 ⟨x, hxm, rfl⟩), ?_⟩
      rw [WideElems.rg_of hy, hkl]
      exact WideAt.sameKey_self (kI_key v)
    rw [h2] at h1
    cases h1
end

section
variable {P : Program} {k : TypeId} {R : Value → Option (DataW Unit × List MemPlace)} (w : World) {b n : Nat} {f : Int → Option (DataW Unit)} {ops : Array Oper} {rest : List Oper} {o : Oper} {a : Act} {Q : Exit → Act → World → Prop}
/-- 'm[v] = x'. -/
theorem wp_put (hg : o.guard = none) (m x y : Operand) (t : TypeId) (hop : o.op = Op.mapUpdate t m x y) {e : TypeId} (K : Keyed P k) (hk : P.underlying k = some (.int .i64)) (ht : P.underlying t = some (.map k e))
    (hm : a.eval m = .map (some b)) (h : MapAt P k R w b n f) (hn : n < maxLen) (v : Int) (hx : a.eval x = .int .i64 v) (hv : (Lit.int .i64 v).wf = true) (val : Value) (hy : a.eval y = val) (d : DataW Unit) (ps : List MemPlace) (hval : R val = some (d, ps))
    (hK : ∀ w', MapAt P k R w' b (n + 1) (fun x => if x = v then some d else f x) → w.grownBy w' (some b) → w'.heap.size = w.heap.size → wpList P ops Q rest (a.put o.dst undef) w') :
    wpList P ops Q (o :: rest) a w := by
  obtain ⟨D, h, r⟩ := h
  refine wpList_mapUpdate_in w hg m x y t hop k e K ht R b n D hm h hn _ val (kI v) hx hy (keyOf_int_mk hk hv) d ps hval fun w' h' ht' => ?_
  refine hK w' ⟨_, h', r.put h.isMap v d⟩ ht'.grown ?_
  obtain ⟨_, _, _, _, _, rfl⟩ := ht'
  simp [Go.ChangeMaps.setBlock]
/-- 'delete(m, v)'. -/
theorem wp_del (hg : o.guard = none) (m x : Operand) (t : TypeId) (hop : o.op = Op.call { callee := Callee.builtin Builtin.delete, args := #[m, x], argTypes := #[t, k] }) {e : TypeId} (K : Keyed P k) (hk : P.underlying k = some (.int .i64)) (ht : P.underlying t = some (.map k e))
    (hm : a.eval m = .map (some b)) (h : MapAt P k R w b n f) (v : Int) (hx : a.eval x = .int .i64 v) (hv : (Lit.int .i64 v).wf = true)
    (hK : ∀ w', MapAt P k R w' b n (fun x => if x = v then none else f x) → w.grownBy w' (some b) → w'.heap.size = w.heap.size → wpList P ops Q rest (a.put o.dst (.tuple #[])) w') :
    wpList P ops Q (o :: rest) a w := by
  obtain ⟨D, h, r⟩ := h
  refine wpList_delete_own w hg m x t k hop e K ht R b n D hm h _ (kI v) hx (keyOf_int_mk hk hv) fun w' h' ht' => ?_
  refine hK w' ⟨_, h', r.del v⟩ ht'.grown ?_
  obtain ⟨_, _, _, _, _, rfl⟩ := ht'
  simp [Go.ChangeMaps.setBlock]

/-- A range over the map is under way: what is still to come, by key. -/
def RangeAt (P : Program) (k : TypeId) (R : Value → Option (DataW Unit × List MemPlace)) (w : World) (b r n : Nat) (f : Int → Option (DataW Unit)) (L : Int → Bool) (cnt : Nat) : Prop :=
  ∃ D left, w.ranges P k R b r n D left cnt ∧ Reads D f ∧ ∀ v, L v = left (kI v)
/-- 'range m'. -/
theorem wp_range (hg : o.guard = none) (m : Operand) (t : TypeId) (hop : o.op = Op.range t m) {e : TypeId} (K : Keyed P k) (ht : P.underlying t = some (.map k e))
    (hm : a.eval m = .map (some b)) (h : MapAt P k R w b n f)
    (hK : ∀ w' L cnt, RangeAt P k R w' b w.heap.size n f L cnt → (∀ v, (Lit.int .i64 v).wf = true → L v = (f v).isSome) → cnt ≤ n → w.grownBy w' none → w'.heap.size = w.heap.size + 1 → wpList P ops Q rest (a.put o.dst (.pointer (some ⟨w.heap.size, 0, none⟩))) w') :
    wpList P ops Q (o :: rest) a w := by
  obtain ⟨D, h, r⟩ := h
  refine wpList_range_own w hg m t hop k e K ht R b n D hm h fun w' h1 h2 h3 => ?_
  exact hK w' (fun v => Maps.has D (kI v)) _ ⟨D, _, h1, r, fun _ => rfl⟩ (fun v hv => r.has hv) h.size_le h2 h3
/-- The step. -/
theorem wp_next {β : Type} {r : Nat} {L : Int → Bool} {cnt : Nat} (hg : o.guard = none) (it : Operand) (hop : o.op = Op.next it false) (K : Keyed P k) (hk : P.underlying k = some (.int .i64)) (mkV : β → Value) (invV : ∀ v y, R v = some y → ∃ c, v = mkV c)
    (hit : a.eval it = .pointer (some ⟨r, 0, none⟩)) (h : RangeAt P k R w b r n f L cnt)
    (hDone : (∀ v, L v = false) → MapAt P k R w b n f → wpList P ops Q rest (a.put o.dst (.tuple #[.bool false])) w)
    (hMore : ∀ (x : Int) (c : β) (w' : World) (cnt' : Nat), (Lit.int .i64 x).wf = true → L x = true → (∃ d ps, R (mkV c) = some (d, ps) ∧ f x = some d) → RangeAt P k R w' b r n f (fun v => L v && !(v == x)) cnt' → cnt' < cnt →
      w.grownBy w' (some r) → w'.heap.size = w.heap.size → (Instr.entry (.pointer (some ⟨r, 0, none⟩))).run P w' = .ok (.tuple #[.int .i64 x, mkV c]) w' → wpList P ops Q rest (a.put o.dst (.tuple #[.bool true, .int .i64 x, mkV c])) w') :
    wpList P ops Q (o :: rest) a w := by
  obtain ⟨D, left, h, rd, hL⟩ := h
  refine wpList_next_ranges w hg it hop k K R (Value.int .i64) mkV (fun key kl hkey => by obtain ⟨x, rfl, _⟩ := keyOf_int_inv hk hkey; exact ⟨x, rfl⟩) invV b r n D left cnt hit h
    (fun _ hl => hDone (fun v => by rw [hL, hl]) ⟨D, h.owns, rd⟩) (fun x c kl y w' cnt' hkey hlk hv hat hrg hlt hgr hsz hen => ?_)
  obtain ⟨x', ex, rfl, hwx⟩ := keyOf_int_inv hk hkey
  cases ex
  exact hMore x c w' cnt' hwx (by rw [hL]; exact hlk) ⟨y.1, y.2, hv, rd.of_at hwx hat⟩ ⟨D, _, hrg, rd, fun v => by show (L v && !(v == x)) = (left (kI v) && !(kI v).sameKey (kI x)); rw [hL, kI_same]⟩ hlt hgr hsz hen
end
theorem RangeAt.kept {P : Program} {k : TypeId} {R : Value → Option (DataW Unit × List MemPlace)} {w w' : World} {b r n : Nat} {f : Int → Option (DataW Unit)} {L : Int → Bool} {cnt : Nat} {row : Option Nat}
    (h : RangeAt P k R w b r n f L cnt) (hg : w.grownBy w' row) (h1 : some b ≠ row) (h2 : some r ≠ row) : RangeAt P k R w' b r n f L cnt := by
  obtain ⟨D, left, h, rest⟩ := h
  exact ⟨D, left, h.kept hg h1 h2, rest⟩
theorem RangeAt.owns {P : Program} {k : TypeId} {R : Value → Option (DataW Unit × List MemPlace)} {w : World} {b r n : Nat} {f : Int → Option (DataW Unit)} {L : Int → Bool} {cnt : Nat} (h : RangeAt P k R w b r n f L cnt) : MapAt P k R w b n f := by
  obtain ⟨D, left, h, rd, _⟩ := h
  exact ⟨D, h.owns, rd⟩
theorem RangeAt.left_eq {P : Program} {k : TypeId} {R : Value → Option (DataW Unit × List MemPlace)} {w : World} {b r n : Nat} {f : Int → Option (DataW Unit)} {L : Int → Bool} {cnt : Nat} (h : RangeAt P k R w b r n f L cnt) : w.rangeLeft b r = cnt := by
  obtain ⟨D, left, h, _⟩ := h
  exact h.left_eq
theorem RangeAt.lt {P : Program} {k : TypeId} {R : Value → Option (DataW Unit × List MemPlace)} {w : World} {b r n : Nat} {f : Int → Option (DataW Unit)} {L : Int → Bool} {cnt : Nat} (h : RangeAt P k R w b r n f L cnt) : r < w.heap.size := by
  obtain ⟨D, left, h, _⟩ := h
  exact h.lt
theorem RangeAt.ne {P : Program} {k : TypeId} {R : Value → Option (DataW Unit × List MemPlace)} {w : World} {b r n : Nat} {f : Int → Option (DataW Unit)} {L : Int → Bool} {cnt : Nat} (h : RangeAt P k R w b r n f L cnt) : r ≠ b := by
  obtain ⟨D, left, h, _⟩ := h
  exact h.ne
end Go.Proofs.YtadjoiahllekdaaGreatDoor.num
namespace Go.Proofs.YtadjoiahllekdaaGreatDoor.num
set_option maxRecDepth 20000
open Go.RowKit Go.Maps
set_option linter.unusedVariables false

theorem keyInt : Keyed Tryz.prog 3 := int_keyed Tryz.underlying3
def setElem (v : Value) : Option (DataW Unit × List MemPlace) := match v with
  | .bool x => some (.lit (.bool x), [])
  | _ => none
def refElem (v : Value) : Option (DataW Unit × List MemPlace) := match v with
  | .map none => some (.lit (.int .i64 (-1)), [])
  | .map (some b) => some (.lit (.int .i64 b), [])
  | _ => none
def refLit : Option Nat → DataW Unit
  | none => .lit (.int .i64 (-1))
  | some b => .lit (.int .i64 b)
theorem refElem_map (o : Option Nat) : refElem (.map o) = some (refLit o, []) := by cases o <;> rfl
theorem refLit_inj {o o' : Option Nat} (h : refLit o = refLit o') : o = o' := by
  cases o <;> cases o' <;> simp [refLit] at h ⊢ <;> omega
theorem setElem_inv (v : Value) (y : DataW Unit × List MemPlace) (h : setElem v = some y) : ∃ c : Bool, v = .bool c := by
  unfold setElem at h
  split at h
  · exact ⟨_, rfl⟩
  · cases h
theorem refElem_inv (v : Value) (y : DataW Unit × List MemPlace) (h : refElem v = some y) : ∃ c : Option Nat, v = .map c := by
  unfold refElem at h
  split at h
  · exact ⟨_, rfl⟩
  · exact ⟨_, rfl⟩
  · cases h

def bit (S : Int → Bool) (v : Int) : Option (DataW Unit) := if S v then some (.lit (.bool true)) else none
/-- Block b is a map[int]bool that holds just the values of S, each with true. -/
def SetAt (w : World) (b n : Nat) (S : Int → Bool) : Prop := MapAt Tryz.prog 3 setElem w b n (bit S)
/-- Block b is a map from values to sets: M v is the element at v. -/
def OutAt (w : World) (b n : Nat) (M : Int → Option (Option Nat)) : Prop := MapAt Tryz.prog 3 refElem w b n (fun v => (M v).map refLit)
theorem bit_congr {S S' : Int → Bool} {v : Int} (h : S v = S' v) : bit S v = bit S' v := by unfold bit; rw [h]
/-- The element at v, as a place; nil where there is none. -/
def elt (M : Int → Option (Option Nat)) (v : Int) : Option Nat := (M v).getD none
theorem SetAt.congr {w : World} {b n : Nat} {S S' : Int → Bool} (h : SetAt w b n S) (e : ∀ v, (Lit.int .i64 v).wf = true → S v = S' v) : SetAt w b n S' := MapAt.congr h fun v hv => by unfold bit; rw [e v hv]
theorem SetAt.made (w : World) : SetAt (w.alloc (.map #[] 0)) w.heap.size 0 (fun _ => false) := MapAt.made w
theorem OutAt.made (w : World) : OutAt (w.alloc (.map #[] 0)) w.heap.size 0 (fun _ => none) := MapAt.made w
theorem zero_bool (w : World) : (zeroValue 4).run Tryz.prog w = .ok (.bool false) w := by kernel_rfl
theorem zero_set (w : World) : (zeroValue 179).run Tryz.prog w = .ok (.map none) w := by kernel_rfl
/-- s[v]. -/
theorem SetAt.look {w : World} {b n : Nat} {S : Int → Bool} (h : SetAt w b n S) (v : Int) (hv : (Lit.int .i64 v).wf = true) : (Instr.lookup 179 (.map (some b)) (.int .i64 v) false).run Tryz.prog w = .ok (.bool (S v)) w := by
  obtain ⟨val, ps, h1, h2⟩ := MapAt.look h keyInt Tryz.underlying3 Tryz.underlying179 (zero_bool w) (zd := .lit (.bool false)) (zp := []) rfl hv
  obtain ⟨c, rfl⟩ := setElem_inv _ _ h2
  rw [h1]
  unfold bit setElem at h2
  cases e : S v <;> rw [e] at h2 <;> simp at h2 <;> rw [h2.1]
theorem nil_look (w : World) (v : Int) (hv : (Lit.int .i64 v).wf = true) : (Instr.lookup 179 (.map none) (.int .i64 v) false).run Tryz.prog w = .ok (.bool false) w :=
  Maps.look_nil false keyInt Tryz.underlying179 (zero_bool w) (keyOf_int_mk Tryz.underlying3 hv)
theorem OutAt.look {w : World} {b n : Nat} {M : Int → Option (Option Nat)} (h : OutAt w b n M) (v : Int) (hv : (Lit.int .i64 v).wf = true) : (Instr.lookup 126 (.map (some b)) (.int .i64 v) false).run Tryz.prog w = .ok (.map (elt M v)) w := by
  obtain ⟨val, ps, h1, h2⟩ := MapAt.look h keyInt Tryz.underlying3 Tryz.underlying126 (zero_set w) (zd := refLit none) (zp := []) rfl hv
  obtain ⟨c, rfl⟩ := refElem_inv _ _ h2
  rw [h1]
  rw [refElem_map] at h2
  have h3 := congrArg Prod.fst (Option.some.inj h2)
  unfold elt
  cases e : M v with
  | none => rw [e] at h3; exact congrArg (fun c => Result.ok (Value.map c) w) (refLit_inj h3)
  | some o => rw [e] at h3; exact congrArg (fun c => Result.ok (Value.map c) w) (refLit_inj h3)
theorem nil_out (w : World) (v : Int) (hv : (Lit.int .i64 v).wf = true) : (Instr.lookup 126 (.map none) (.int .i64 v) false).run Tryz.prog w = .ok (.map none) w :=
  Maps.look_nil false keyInt Tryz.underlying126 (zero_set w) (keyOf_int_mk Tryz.underlying3 hv)
/-- A set that may be nil. -/
def OptSet (w : World) (o : Option Nat) (n : Nat) (S : Int → Bool) : Prop := match o with
  | none => ∀ v, S v = false
  | some b => SetAt w b n S
theorem OptSet.kept {w w' : World} {o : Option Nat} {n : Nat} {S : Int → Bool} {row : Option Nat} (h : OptSet w o n S) (hg : w.grownBy w' row) (hne : ∀ b, o = some b → some b ≠ row) : OptSet w' o n S := by
  cases o with
  | none => exact h
  | some b => exact MapAt.kept h hg (hne b rfl)
theorem OptSet.look {w : World} {o : Option Nat} {n : Nat} {S : Int → Bool} (h : OptSet w o n S) (v : Int) (hv : (Lit.int .i64 v).wf = true) : (Instr.lookup 179 (.map o) (.int .i64 v) false).run Tryz.prog w = .ok (.bool (S v)) w := by
  cases o with
  | none => rw [nil_look w v hv, h v]
  | some b => exact SetAt.look h v hv

section
variable (w : World) {b n : Nat} {ops : Array Oper} {rest : List Oper} {o : Oper} {a : Act} {Q : Exit → Act → World → Prop}
/-- The step of a range over a set. -/
theorem wp_next_set {S : Int → Bool} {r : Nat} {L : Int → Bool} {cnt : Nat} (hg : o.guard = none) (it : Operand) (hop : o.op = Op.next it false)
    (hit : a.eval it = .pointer (some ⟨r, 0, none⟩)) (h : RangeAt Tryz.prog 3 setElem w b r n (bit S) L cnt)
    (hDone : (∀ v, L v = false) → wpList Tryz.prog ops Q rest (a.put o.dst (.tuple #[.bool false])) w)
    (hMore : ∀ (x : Int) (w' : World) (cnt' : Nat), (Lit.int .i64 x).wf = true → L x = true → S x = true → RangeAt Tryz.prog 3 setElem w' b r n (bit S) (fun v => L v && !(v == x)) cnt' → cnt' < cnt →
      w.grownBy w' (some r) → w'.heap.size = w.heap.size → (Instr.entry (.pointer (some ⟨r, 0, none⟩))).run Tryz.prog w' = .ok (.tuple #[.int .i64 x, .bool true]) w' → wpList Tryz.prog ops Q rest (a.put o.dst (.tuple #[.bool true, .int .i64 x, .bool true])) w') :
    wpList Tryz.prog ops Q (o :: rest) a w :=
  wp_next w hg it hop keyInt Tryz.underlying3 Value.bool setElem_inv hit h (fun h1 _ => hDone h1) (fun x c w' cnt' h1 h2 h3 h4 h5 h6 h7 h8 => by
    obtain ⟨d, ps, e1, e2⟩ := h3
    unfold bit at e2
    cases e : S x
    · rw [e] at e2; cases e2
    · rw [e] at e2
      cases e2
      cases c
      · cases e1
      · exact hMore x w' cnt' h1 h2 e h4 h5 h6 h7 h8)
/-- An entry of a map of sets has come: at x, the element o. -/
structure Came (w w' : World) (b r n : Nat) (M : Int → Option (Option Nat)) (L : Int → Bool) (cnt cnt' : Nat) (x : Int) (o : Option Nat) : Prop where
  wf : (Lit.int .i64 x).wf = true
  left : L x = true
  elem : M x = some o
  range : RangeAt Tryz.prog 3 refElem w' b r n (fun v => (M v).map refLit) (fun v => L v && !(v == x)) cnt'
  lt : cnt' < cnt
  grown : w.grownBy w' (some r)
  size : w'.heap.size = w.heap.size
  entry : (Instr.entry (.pointer (some ⟨r, 0, none⟩))).run Tryz.prog w' = .ok (.tuple #[.int .i64 x, .map o]) w'
/-- The step of a range over a map of sets, all of them there. -/
theorem wp_next_ref {M : Int → Option Nat} {r : Nat} {L : Int → Bool} {cnt : Nat} (hg : o.guard = none) (it : Operand) (hop : o.op = Op.next it false)
    (hit : a.eval it = .pointer (some ⟨r, 0, none⟩)) (h : RangeAt Tryz.prog 3 refElem w b r n (fun v => (M v).map some |>.map refLit) L cnt)
    (hDone : (∀ v, L v = false) → wpList Tryz.prog ops Q rest (a.put o.dst (.tuple #[.bool false])) w)
    (hMore : ∀ (x : Int) (z : Nat) (w' : World) (cnt' : Nat), Came w w' b r n (fun v => (M v).map some) L cnt cnt' x (some z) → wpList Tryz.prog ops Q rest (a.put o.dst (.tuple #[.bool true, .int .i64 x, .map (some z)])) w') :
    wpList Tryz.prog ops Q (o :: rest) a w :=
  wp_next w hg it hop keyInt Tryz.underlying3 Value.map refElem_inv hit h (fun h1 _ => hDone h1) (fun x c w' cnt' h1 h2 h3 h4 h5 h6 h7 h8 => by
    obtain ⟨d, ps, e1, e2⟩ := h3
    rw [refElem_map] at e1
    cases e1
    cases e : M x with
    | none => simp [e] at e2
    | some z =>
      simp only [e, Option.map_some, Option.some.injEq] at e2
      obtain rfl := refLit_inj e2
      exact hMore x z w' cnt' ⟨h1, h2, by simp [e], h4, h5, h6, h7, h8⟩)
/-- The step of a range over a map of sets, some of them nil. -/
theorem wp_next_out {M : Int → Option (Option Nat)} {r : Nat} {L : Int → Bool} {cnt : Nat} (hg : o.guard = none) (it : Operand) (hop : o.op = Op.next it false)
    (hit : a.eval it = .pointer (some ⟨r, 0, none⟩)) (h : RangeAt Tryz.prog 3 refElem w b r n (fun v => (M v).map refLit) L cnt)
    (hDone : (∀ v, L v = false) → wpList Tryz.prog ops Q rest (a.put o.dst (.tuple #[.bool false])) w)
    (hMore : ∀ (x : Int) (w' : World) (cnt' : Nat), Came w w' b r n M L cnt cnt' x (elt M x) → wpList Tryz.prog ops Q rest (a.put o.dst (.tuple #[.bool true, .int .i64 x, .map (elt M x)])) w') :
    wpList Tryz.prog ops Q (o :: rest) a w :=
  wp_next w hg it hop keyInt Tryz.underlying3 Value.map refElem_inv hit h (fun h1 _ => hDone h1) (fun x c w' cnt' h1 h2 h3 h4 h5 h6 h7 h8 => by
    obtain ⟨d, ps, e1, e2⟩ := h3
    rw [refElem_map] at e1
    cases e1
    have hc : M x = some c := by
      cases e : M x with
      | none => simp [e] at e2
      | some c' =>
        simp only [e, Option.map_some, Option.some.injEq] at e2
        rw [refLit_inj e2]
    have he : elt M x = c := by unfold elt; rw [hc]; rfl
    subst he
    exact hMore x w' cnt' ⟨h1, h2, hc, h4, h5, h6, h7, h8⟩)
end

theorem copy_set (w : World) (bd bs nd ns : Nat) (S S' : Int → Bool) (hd : SetAt w bd nd S) (hs : SetAt w bs ns S') (hne : bd ≠ bs) (hroom : nd + ns ≤ 1048576) :
    Calls Tryz.prog 154 #[.map (some bd), .map (some bs)] w fun e w' => e = .returned (.tuple #[]) ∧ SetAt w' bd (nd + ns) (fun v => S v || S' v) ∧ w.grownBy w' (some bd) := by
  have hbd : bd < w.heap.size := MapAt.lt hd
  have hbs : bs < w.heap.size := MapAt.lt hs
  go_enter Tryz.func154, Tryz.ntmps154
  go_wp2_with (first
    | (at_range; refine wp_range _ rfl _ 179 rfl keyInt Tryz.underlying179 rfl hs ?_; intro w0 L0 cnt0 hrg0 hL0 hc0 hg0 hs0)
    | go_in)
  go_frame
  go_loopw [8] (fun _ wr => ∃ (L : Int → Bool) (cnt : Nat), RangeAt Tryz.prog 3 setElem wr bs w.heap.size ns (bit S') L cnt ∧ cnt ≤ ns ∧ SetAt wr bd (nd + (ns - cnt)) (fun v => S v || (S' v && !L v)) ∧ w.grownBy wr (some bd))
    (fun _ wr => wr.rangeLeft bs w.heap.size)
  case atStart =>
    refine ⟨_, _, hrg0, hc0, ((MapAt.kept hd hg0 (by simp)).mono (by omega)).congr fun v hv => ?_, hg0.but _⟩
    refine bit_congr ?_
    have := hL0 v hv
    unfold bit at this
    show S v = (S v || (S' v && !L0 v))
    rw [this]
    cases S v <;> cases S' v <;> rfl
  case round =>
    obtain ⟨L, cnt, hrg, hcn, hout, hgw⟩ := hrel
    go_wp2_with (first
      | (at_next; refine wp_next_set _ rfl _ rfl rfl hrg ?_ ?_)
      | go_in)
    · intro hl0
      go_wp2
      go_end0
      exact ⟨rfl, (MapAt.mono hout (by omega)).congr fun v _ => bit_congr (by simp [hl0]), hgw⟩
    · intro x w1 cnt1 hwx hlx hsx hrg1 hlt hg1 hs1 hen
      have hr1 := hrg.lt
      have hgr := hgw.size
      have hout1 := MapAt.kept hout hg1 (fun e => by have := Option.some.inj e; omega)
      have HSX := Lib.hid hsx
      have HL := Lib.hid hlx
      clear hsx hlx
      go_wp2_with (first
        | (at_mapUpdate; refine wp_put _ rfl _ _ _ 179 rfl keyInt Tryz.underlying3 Tryz.underlying179 rfl hout1 (by unfold maxLen; omega) x rfl hwx _ rfl (.lit (.bool true)) [] rfl ?_; intro w2 hout2 hg2 hs2; go_frame)
        | go_in)
      have hrg2 := hrg1.kept hg2 (fun e => hne (Option.some.inj e).symm) (fun e => by have := Option.some.inj e; omega)
      go_roundw
      case rel =>
        refine ⟨_, cnt1, hrg2, by omega, (MapAt.mono hout2 (by omega)).congr fun v hv => ?_, (hgw.andThen hg1 (fun j hj => .inl (by cases hj; exact Nat.le_refl _))).andThen hg2 (fun j hj => .inr hj)⟩
        show (if v = x then some (DataW.lit (Lit.bool true)) else bit (fun v => S v || (S' v && !L v)) v) = bit (fun v => S v || (S' v && !(L v && !(v == x)))) v
        by_cases e : v = x
        · subst e
          simp [bit, HSX.out]
        · have e' : (v == x) = false := by simpa using e
          simp [bit, e, e']
      case measure => rw [hrg2.left_eq, hrg.left_eq]; exact hlt

theorem copy_nil (w : World) (pd : Option Nat) :
    Calls Tryz.prog 154 #[.map pd, .map none] w fun e w' => e = .returned (.tuple #[]) ∧ w' = w.alloc (.mapIter none 0 #[] 0) := by
  have hrg := run_range_nilMap (P := Tryz.prog) w 179 _ _ Tryz.underlying179
  have hnx : ∀ ty, (Instr.next (.pointer (some ⟨w.heap.size, 0, none⟩)) false ty).run Tryz.prog (w.alloc (.mapIter none 0 #[] 0)) = _ := fun ty => run_next_nilMap _ ty 0 0 #[]
  go_enter Tryz.func154, Tryz.ntmps154
  go_wp2
  refine wp_loop_rounds 1 ?_
  rw [rounds_succ]
  go_wp2
  go_end0
  exact ⟨rfl, rfl⟩

theorem copy_of_set (w : World) (bd nd ns : Nat) (o : Option Nat) (S S' : Int → Bool) (hd : SetAt w bd nd S) (hs : OptSet w o ns S') (hne : o ≠ some bd) (hroom : nd + ns ≤ 1048576) :
    Calls Tryz.prog 154 #[.map (some bd), .map o] w fun e w' => e = .returned (.tuple #[]) ∧ SetAt w' bd (nd + ns) (fun v => S v || S' v) ∧ w.grownBy w' (some bd) := by
  cases o with
  | none =>
    refine (copy_nil w (some bd)).mono fun e w' ⟨he, hw⟩ => ?_
    subst hw
    refine ⟨he, ((MapAt.alloc hd _).mono (Nat.le_add_right _ _)).congr fun v _ => ?_, World.grownBy_alloc w _ _⟩
    refine bit_congr ?_
    show S v = (S v || S' v)
    rw [hs v]
    simp
  | some b => exact copy_set w bd b nd ns S S' hd hs (fun e => hne (by rw [e])) hroom
end Go.Proofs.YtadjoiahllekdaaGreatDoor.num
namespace Go.Proofs.YtadjoiahllekdaaGreatDoor.num
set_option maxRecDepth 20000
open Go.RowKit Go.Maps
set_option linter.unusedVariables false

/-- Block b of w is the map whose element at v (block M v) is the set of those a with R a v; all of it from block B on. -/
structure SetsR (w : World) (B b n : Nat) (M : Int → Option Nat) (R : Int → Int → Bool) : Prop where
  out : OutAt w b n (fun v => (M v).map some)
  low : B ≤ b
  has : ∀ v a, R a v = true → ∃ x, M v = some x
  rng : ∀ v x, M v = some x → InR v
  sets : ∀ v x, M v = some x → B ≤ x ∧ x ≠ b ∧ SetAt w x n (fun a => R a v)
  inj : ∀ v v' x, M v = some x → M v' = some x → v = v'
theorem SetsR.below {w w' : World} {B b n : Nat} {M : Int → Option Nat} {R : Int → Int → Bool} (h : SetsR w B b n M R) (hb : Below w.heap.size w w') : SetsR w' B b n M R :=
  ⟨MapAt.block h.out (hb.block _ (MapAt.lt h.out)), h.low, h.has, h.rng, fun v x hx => by
    obtain ⟨h1, h2, h3⟩ := h.sets v x hx
    exact ⟨h1, h2, MapAt.block h3 (hb.block _ (MapAt.lt h3))⟩, h.inj⟩
theorem SetsR.none {w : World} {B b n : Nat} {M : Int → Option Nat} {R : Int → Int → Bool} (h : SetsR w B b n M R) {v : Int} (hv : M v = none) (a : Int) : R a v = false := by
  cases e : R a v
  · rfl
  · obtain ⟨x, hx⟩ := h.has v a e
    rw [hv] at hx; cases hx
theorem elt_some (M : Int → Option Nat) (v : Int) : elt (fun v => (M v).map some) v = M v := by
  unfold elt
  cases e : M v <;> simp [e]
theorem SetsR.opt {w : World} {B b n : Nat} {M : Int → Option Nat} {R : Int → Int → Bool} (h : SetsR w B b n M R) (v : Int) : OptSet w (M v) n (fun a => R a v) := by
  cases e : M v with
  | none => exact fun a => h.none e a
  | some x => exact (h.sets v x e).2.2
theorem inR_wf {v : Int} (h : InR v) : (Lit.int .i64 v).wf = true := WalkArith.wf_i64 (by unfold InR at h; omega)

theorem eq_nil_yes (w : World) : (binOp BinOp.eql 179 (.map none) (.map none)).run Tryz.prog w = .ok (.bool true) w := by kernel_rfl
theorem eq_nil_no (w : World) (z : Nat) : (binOp BinOp.eql 179 (.map (some z)) (.map none)).run Tryz.prog w = .ok (.bool false) w := by kernel_rfl

theorem closes_of (w : World) (B b n : Nat) (M : Int → Option Nat) (R : Int → Int → Bool) (h : SetsR w B b n M R) (x y : Int) (hx : InR x) (hy : InR y) (q : Bool) (hq : q = true ↔ x = y ∨ R y x = true) :
    Calls Tryz.prog 130 #[.map (some b), .agg #[.int .i64 x, .int .i64 y]] w fun e w' => e = .returned (.bool q) ∧ Below w.heap.size w w' := by
  have HQ := Lib.hid hq
  have HS := Lib.hid h
  have HX := Lib.hid hx
  have HY := Lib.hid hy
  clear hq h hx hy
  by_cases he : x = y
  · subst he
    obtain rfl : q = true := HQ.out.2 (.inl rfl)
    go_enter Tryz.func130, Tryz.ntmps130
    go_wp2
    go_ret
    exact ⟨rfl, (Below.refl _ w).alloc (Nat.le_refl _) _⟩
  · have hne : (x == y) = false := by simpa using he
    obtain rfl : q = R y x := by
      rw [Bool.eq_iff_iff, HQ.out]
      exact ⟨fun h => h.resolve_left he, fun h => .inr h⟩
    have HE := Lib.hid he
    clear he HQ
    have hS1 := HS.out.below ((Below.refl w.heap.size w).alloc (Nat.le_refl _) (.cells #[.int .i64 x, .int .i64 y] 78))
    have e1 := hS1.out.look x (inR_wf HX.out)
    rw [elt_some] at e1
    have e2 := (hS1.opt x).look y (inR_wf HY.out)
    clear hS1
    go_enter Tryz.func130, Tryz.ntmps130
    go_wp2
    go_ret
    exact ⟨rfl, (Below.refl _ w).alloc (Nat.le_refl _) _⟩

/-- addPair's loop under way: the sets of those values that have come are the new ones. -/
structure AddInv (wr w : World) (B b pb r n : Nat) (x y : Int) (M : Int → Option Nat) (R : Int → Int → Bool) (L : Int → Bool) : Prop where
  low : Below B w wr
  box : wr.heap[pb]? = some (.cells #[.int .i64 x, .int .i64 y] 78)
  sets : ∀ v z, M v = some z → SetAt wr z (if L v then n else 2 * n + 1) (fun a => if L v then R a v else stepR R (x, y) a v)
  src : ∀ z, M x = some z → SetAt wr z n (fun a => R a x)
  ends : ∀ v z, M v = some z → B ≤ z ∧ z ≠ b ∧ z ≠ pb ∧ z < r
  pbr : pb < r ∧ B ≤ r ∧ B ≤ pb ∧ b < r ∧ B ≤ b ∧ b ≠ pb
/-- Blocks that are none of the sets, nor the pair's own, may turn. -/
theorem AddInv.kept {wr w1 w : World} {B b pb r n : Nat} {x y : Int} {M : Int → Option Nat} {R : Int → Int → Bool} {L : Int → Bool} (h : AddInv wr w B b pb r n x y M R L) (hg : wr.grownBy w1 (some r)) (hr : r < wr.heap.size) : AddInv w1 w B b pb r n x y M R L :=
  ⟨h.low.grown hg (by have := h.pbr; omega) (fun k hk => by cases hk; exact h.pbr.2.1), (hg.block pb (by have := h.pbr; omega) (fun e => by have := Option.some.inj e; have := h.pbr; omega)).trans h.box,
    fun v z hz => MapAt.kept (h.sets v z hz) hg (fun e => by have := Option.some.inj e; have := h.ends v z hz; omega),
    fun z hz => MapAt.kept (h.src z hz) hg (fun e => by have := Option.some.inj e; have := h.ends x z hz; omega), h.ends, h.pbr⟩
theorem AddInv.cells {wr w : World} {B b pb r n : Nat} {x y : Int} {M : Int → Option Nat} {R : Int → Int → Bool} {L : Int → Bool} (h : AddInv wr w B b pb r n x y M R L) : wr.cell? ⟨pb, 0, none⟩ = some (.int .i64 x) ∧ wr.cell? ⟨pb, 1, none⟩ = some (.int .i64 y) := by
  have := h.box
  constructor <;> simp [World.cell?, this]
/-- The value u has come, and nothing is to be done. -/
theorem AddInv.skip {wr w : World} {B b pb r n : Nat} {x y u : Int} {M : Int → Option Nat} {R : Int → Int → Bool} {L : Int → Bool} (h : AddInv wr w B b pb r n x y M R L) (hu : L u = true) (h1 : u ≠ y) (h2 : R y u = false) : AddInv wr w B b pb r n x y M R (fun v => L v && !(v == u)) :=
  ⟨h.low, h.box, fun v z hz => by
    have hs := h.sets v z hz
    by_cases e : v = u
    · subst e
      rw [hu] at hs
      refine (MapAt.mono hs (by simp; omega)).congr fun a _ => bit_congr ?_
      have h1' : (v == y) = false := by simpa using h1
      simp [stepR, h1', h2]
    · have e' : (v == u) = false := by simpa using e
      refine MapAt.congr (MapAt.mono hs (by simp [e'])) fun a _ => bit_congr (by simp [e']), h.src, h.ends, h.pbr⟩
/-- The value u has come, and its set has been written. -/
theorem AddInv.done {wr w' w : World} {B b pb r n z : Nat} {x y u : Int} {M : Int → Option Nat} {R : Int → Int → Bool} {L : Int → Bool} (h : AddInv wr w B b pb r n x y M R L) (hM : ∀ v v' x, M v = some x → M v' = some x → v = v') (hz : M u = some z) (hux : u ≠ x) (hc : u = y ∨ R y u = true)
    (hg : wr.grownBy w' (some z)) (hr : r < wr.heap.size) (hnew : SetAt w' z (2 * n + 1) (fun a => (if a = x then true else R a u) || R a x)) : AddInv w' w B b pb r n x y M R (fun v => L v && !(v == u)) := by
  have hze := h.ends u z hz
  refine ⟨h.low.grown hg (by have := h.pbr; omega) (fun k hk => by cases hk; exact hze.1), (hg.block pb (by have := h.pbr; omega) (fun e => by have := Option.some.inj e; omega)).trans h.box, fun v z' hz' => ?_, fun z' hz' => ?_, h.ends, h.pbr⟩
  · by_cases e : v = u
    · subst e
      obtain rfl : z = z' := Option.some.inj (hz.symm.trans hz')
      refine (MapAt.mono hnew (by simp)).congr fun a _ => bit_congr ?_
      have hcc : (v == y || R y v) = true := by
        rcases hc with rfl | hc
        · simp
        · simp [hc]
      simp only [BEq.rfl, Bool.not_true, Bool.and_false, Bool.false_eq_true, if_false, stepR, hcc, Bool.and_true]
      by_cases ea : a = x
      · subst ea; simp
      · have ea' : (a == x) = false := by simpa using ea
        simp [ea, ea']
    · have hzz : z' ≠ z := fun e' => e (hM _ _ z' hz' (e' ▸ hz))
      have e' : (v == u) = false := by simpa using e
      refine MapAt.congr (MapAt.mono (MapAt.kept (h.sets v z' hz') hg (fun e => hzz (Option.some.inj e))) (by simp [e'])) fun a _ => bit_congr (by simp [e'])
  · have hzz : z' ≠ z := fun e' => hux (hM _ _ z (hz) (e' ▸ hz'))
    exact MapAt.kept (h.src z' hz') hg (fun e => hzz (Option.some.inj e))
/-- All have come. -/
theorem AddInv.fin {wr w : World} {B b pb r n : Nat} {x y : Int} {M : Int → Option Nat} {R : Int → Int → Bool} {L : Int → Bool} (h : AddInv wr w B b pb r n x y M R L) (hl : ∀ v, L v = false) (hout : OutAt wr b n (fun v => (M v).map some))
    (hhas : ∀ v a, R a v = true → ∃ x, M v = some x) (hy : ∃ z, M y = some z) (hrng : ∀ v x, M v = some x → InR v) (hM : ∀ v v' x, M v = some x → M v' = some x → v = v') (m : Nat) (hm : 2 * n + 1 ≤ m) : SetsR wr B b m M (stepR R (x, y)) :=
  ⟨MapAt.mono hout (by omega), h.pbr.2.2.2.2.1, fun v a ha => by
    unfold stepR at ha
    simp only [Bool.or_eq_true, Bool.and_eq_true, beq_iff_eq] at ha
    rcases ha with ha | ⟨_, ha⟩
    · exact hhas v a ha
    · rcases ha with rfl | ha
      · exact hy
      · exact hhas v y ha, hrng, fun v z hz => by
    obtain ⟨h1, h2, _⟩ := h.ends v z hz
    refine ⟨h1, h2, (MapAt.mono (h.sets v z hz) (by simp [hl]; omega)).congr fun a _ => bit_congr (by simp [hl])⟩, hM⟩

set_option maxHeartbeats 2000000 in
theorem add_of (w : World) (B b n : Nat) (M : Int → Option Nat) (R : Int → Int → Bool) (h : SetsR w B b n M R) (hB : B ≤ w.heap.size) (hn : n ≤ 100000) (x y : Int) (hx : InR x) (hy : InR y) (hne : x ≠ y) (hR : R y x = false) :
    Calls Tryz.prog 131 #[.map (some b), .agg #[.int .i64 x, .int .i64 y]] w fun e w' => e = .returned (.tuple #[]) ∧ (∃ M', SetsR w' B b (2 * n + 3) M' (stepR R (x, y))) ∧ Below B w w' := by
  have HS := Lib.hid h
  have HX := Lib.hid hx
  have HY := Lib.hid hy
  have HNe := Lib.hid hne
  have HRf := Lib.hid hR
  have hb := MapAt.lt h.out
  have HB1 := Lib.hid ((Below.refl w.heap.size w).alloc (Nat.le_refl _) (.cells #[.int .i64 x, .int .i64 y] 78))
  have hS1 := h.below HB1.out
  have HS1 := Lib.hid hS1
  have e1 := hS1.out.look y (inR_wf hy)
  rw [elt_some] at e1
  clear h hx hy hne hR hS1
  rcases hMy : M y with _ | zy
  · rw [hMy] at e1
    have HMy0 := Lib.hid hMy
    clear hMy
    have eN := eq_nil_yes
    have hmm := @run_makeMap Tryz.prog
    go_enter Tryz.func131, Tryz.ntmps131
    go_upto_region 3 with (first
      | (at_mapUpdate; refine wp_put _ rfl _ _ _ 126 rfl keyInt Tryz.underlying3 Tryz.underlying126 rfl (MapAt.alloc HS1.out.out (.map #[] 0)) (by unfold maxLen; omega) y rfl (inR_wf HY.out) _ rfl (refLit (some (w.heap.size + 1))) [] rfl ?_; intro w2 hout2 hg2 hs2)
      | go_in)
    clear hmm eN
    obtain ⟨M1, hM1⟩ : ∃ M1 : Int → Option Nat, M1 = fun v => if v = y then some (w.heap.size + 1) else M v := ⟨_, rfl⟩
    obtain ⟨n1, hn1⟩ : ∃ n1, n1 = n + 1 := ⟨_, rfl⟩
    have hM1y : M1 y = some (w.heap.size + 1) := by rw [hM1]; simp
    have hM1o : ∀ v, v ≠ y → M1 v = M v := fun v hv => by rw [hM1]; simp [hv]
    clear hM1
    have Hout2 : Hid (OutAt w2 b n1 (fun v => (M1 v).map some)) := Lib.hid (by
      rw [hn1]
      refine MapAt.congr hout2 fun v _ => ?_
      by_cases e : v = y
      · subst e; simp [hM1y]
      · simp [e, hM1o v e])
    have hold : ∀ v z, M v = some z → z < w.heap.size := fun v z hz => MapAt.lt (HS.out.sets v z hz).2.2
    have hset : ∀ v z, M1 v = some z → B ≤ z ∧ z ≠ b ∧ z ≠ w.heap.size ∧ z < w2.heap.size ∧ SetAt w2 z n (fun a => R a v) := fun v z hz => by
      simp at hs2
      by_cases e : v = y
      · subst e
        rw [hM1y] at hz
        cases hz
        refine ⟨by omega, by omega, by omega, by omega, ?_⟩
        have h0 : SetAt ((w.alloc (.cells #[.int .i64 x, .int .i64 v] 78)).alloc (.map #[] 0)) (w.heap.size + 1) 0 (fun _ => false) := by
          have := SetAt.made (w.alloc (.cells #[.int .i64 x, .int .i64 v] 78))
          simpa using this
        refine (MapAt.mono (MapAt.kept h0 hg2 (fun e => by have := Option.some.inj e; omega)) (Nat.zero_le _)).congr fun a _ => bit_congr ?_
        exact (HS.out.none HMy0.out a).symm
      · rw [hM1o v e] at hz
        obtain ⟨h1, h2, h3⟩ := HS1.out.sets v z hz
        have h4 := hold v z hz
        exact ⟨h1, h2, by omega, by omega, MapAt.kept (MapAt.alloc h3 _) hg2 (fun e => h2 (Option.some.inj e))⟩
    have HInj : Hid (∀ v v' z, M1 v = some z → M1 v' = some z → v = v') := Lib.hid fun v v' z h1 h2 => by
      by_cases e : v = y
      · by_cases e' : v' = y
        · rw [e, e']
        · subst e
          rw [hM1y] at h1
          rw [hM1o v' e'] at h2
          have := hold v' z h2
          cases h1
          omega
      · rw [hM1o v e] at h1
        by_cases e' : v' = y
        · subst e'
          rw [hM1y] at h2
          have := hold v z h1
          cases h2
          omega
        · rw [hM1o v' e'] at h2
          exact HS.out.inj v v' z h1 h2
    have HHas : Hid (∀ v a, R a v = true → ∃ z, M1 v = some z) := Lib.hid fun v a ha => by
      by_cases e : v = y
      · subst e; exact ⟨_, hM1y⟩
      · rw [hM1o v e]; exact HS.out.has v a ha
    have HRng : Hid (∀ v z, M1 v = some z → InR v) := Lib.hid fun v z hz => by
      by_cases e : v = y
      · subst e; exact HY.out
      · rw [hM1o v e] at hz; exact HS.out.rng v z hz
    have HMy : Hid (∃ z, M1 y = some z) := Lib.hid ⟨_, hM1y⟩
    have hbox2 : w2.heap[w.heap.size]? = some (.cells #[.int .i64 x, .int .i64 y] 78) := by
      refine (hg2.block w.heap.size (by simp; omega) (fun e => by have := Option.some.inj e; omega)).trans ?_
      rw [Below.heap_alloc _ _ _ (by simp)]
      exact heap_alloc_new w _
    have hb2 : Below B w w2 := (((Below.refl B w).alloc hB _).alloc (by simp; omega) _).grown hg2 (by simp; omega) (fun k hk => by cases hk; exact HS.out.low)
    have hn1' : n1 ≤ 100001 := by omega
    have hn2 : 2 * n1 + 1 ≤ 2 * n + 3 := by omega
    have HInv : Hid (∀ w3 L0, w2.grownBy w3 none → w3.heap.size = w2.heap.size + 1 → (∀ v, (Lit.int .i64 v).wf = true → L0 v = ((M1 v).map some |>.map refLit).isSome) → AddInv w3 w B b w.heap.size w2.heap.size n1 x y M1 R L0) := Lib.hid fun w3 L0 hg0 hs0 hL0 => by
      have hsl := hb2.size
      have hbl := MapAt.lt Hout2.out
      refine ⟨hb2.grown hg0 (by omega) (fun k hk => by cases hk), (hg0.block w.heap.size (Array.getElem?_eq_some_iff.1 hbox2).1 (by simp)).trans hbox2, fun v z hz => ?_, fun z hz => ?_, fun v z hz => ?_, (Array.getElem?_eq_some_iff.1 hbox2).1, by omega, hB, hbl, HS.out.low, by omega⟩
      · have hLv : L0 v = true := by
          rw [hL0 v (inR_wf (HRng.out v z hz)), hz]; rfl
        rw [hLv]
        exact MapAt.mono (MapAt.kept (hset v z hz).2.2.2.2 hg0 (by simp)) (by simp; omega)
      · exact MapAt.mono (MapAt.kept (hset x z hz).2.2.2.2 hg0 (by simp)) (by omega)
      · obtain ⟨h1, h2, h3, h4, _⟩ := hset v z hz
        exact ⟨h1, h2, h3, h4⟩
    have HOut := Hout2
    clear hout2 hg2 hs2 hset hold hM1y hM1o hbox2 hb2 e1 HS1 HB1 hn1
    go_wp2_with (first
      | (at_range; refine wp_range _ rfl _ 126 rfl keyInt Tryz.underlying126 rfl HOut.out ?_; intro w3 L0 cnt0 hrg0 hL0 hc0 hg0 hs0)
      | go_in)
    try go_frame
    have HI0 := Lib.hid (HInv.out w3 L0 hg0 hs0 hL0)
    have HR0 := Lib.hid hrg0
    clear hrg0 hL0 hg0 hs0 HOut HInv
    go_loopw [17] (fun _ wr => ∃ (L : Int → Bool) (cnt : Nat), RangeAt Tryz.prog 3 refElem wr b w2.heap.size n1 (fun v => (M1 v).map some |>.map refLit) L cnt ∧ AddInv wr w B b w.heap.size w2.heap.size n1 x y M1 R L)
      (fun _ wr => wr.rangeLeft b w2.heap.size)
    case atStart => exact ⟨_, _, HR0.out, HI0.out⟩
    case round =>
      clear HR0 HI0
      obtain ⟨L, cnt, hrg, hinv⟩ := hrel
      have HV := Lib.hid hinv
      clear hinv
      go_wp2_with (first
        | (at_next; refine wp_next_ref _ rfl _ rfl rfl hrg ?_ ?_)
        | go_in)
      · intro hl0
        have HL := Lib.hid hl0
        clear hl0
        go_wp2
        go_end0
        exact ⟨rfl, ⟨M1, HV.out.fin HL.out hrg.owns HHas.out HMy.out HRng.out HInj.out _ (by omega)⟩, HV.out.low⟩
      · intro u z w4 cnt4 hcame
        have hr4 := hrg.lt
        have hz : M1 u = some z := by
          have := hcame.elem
          cases e : M1 u <;> simp [e] at this
          rw [this]
        have hlu := hcame.left
        have hrg4 := hcame.range
        have hlt4 := hcame.lt
        have hg4 := hcame.grown
        have hs4 := hcame.size
        have hen := hcame.entry
        clear hcame
        have HZ := Lib.hid hz
        have HLu := Lib.hid hlu
        have HV4 := Lib.hid (HV.out.kept hg4 hr4)
        obtain ⟨f0, f1⟩ := HV4.out.cells
        have hsz : SetAt w4 z n1 (fun a => R a u) := by
          have := HV4.out.sets u z hz
          rw [hlu] at this
          simpa using this
        have e1 := hsz.look y (inR_wf HY.out)
        have HSz := Lib.hid hsz
        have HR4 := Lib.hid hrg4
        have Hlt4 := Lib.hid hlt4
        have HR := Lib.hid hrg
        have hr5 : Hid (w2.heap.size < w4.heap.size) := Lib.hid (by rw [hs4]; exact hr4)
        clear hz hlu hrg hlt4 hg4 hs4 hr4 hrg4 hsz HV
        by_cases huy : u = y
        · obtain ⟨cc, hcc⟩ : ∃ cc : Bool, cc = R y u := ⟨_, rfl⟩
          rw [← hcc] at e1
          have HUY := Lib.hid (show u = y ∨ R y u = true from .inl huy)
          have hbe : (u == y) = true := by simpa using huy
          have HHuy := Lib.hid huy
          clear huy hcc
          go_upto_region 8 with (first
            | (at_mapUpdate; refine wp_put _ rfl _ _ _ 179 rfl keyInt Tryz.underlying3 Tryz.underlying179 rfl HSz.out (by unfold maxLen; omega) x rfl (inR_wf HX.out) _ rfl (.lit (.bool true)) [] rfl ?_; intro w5 hset5 hg5 hs5)
            | go_in)
          have hux : u ≠ x := fun e => by
            subst e
            rcases HUY.out with h | h
            · exact HNe.out h
            · rw [HRf.out] at h; cases h
          have HUX := Lib.hid hux
          have hzr := HV4.out.ends u z HZ.out
          have hbr := HV4.out.pbr
          have HR5 := Lib.hid (HR4.out.kept hg5 (fun e => by have := Option.some.inj e; omega) (fun e => by have := Option.some.inj e; omega))
          have e3 := OutAt.look (M := fun v => (M1 v).map some) HR5.out.owns x (inR_wf HX.out)
          rw [elt_some] at e3
          have f2 : w5.cell? ⟨w.heap.size, 0, none⟩ = some (.int .i64 x) := (World.cell?_of_block (hg5.block w.heap.size (by have := hr5.out; omega) (fun e => by have := Option.some.inj e; omega))).trans f0
          have hsrc : OptSet w5 (M1 x) n1 (fun a => R a x) := by
            cases e : M1 x with
            | none =>
              intro a
              cases e' : R a x
              · exact e'
              · obtain ⟨z', hz'⟩ := HHas.out x a e'
                rw [e] at hz'; cases hz'
            | some z' =>
              have hzz : z' ≠ z := fun e' => hux (HInj.out _ _ z HZ.out (e' ▸ e))
              exact MapAt.kept (HV4.out.src z' e) hg5 (fun e => hzz (Option.some.inj e))
          have HSrc := Lib.hid hsrc
          have Hg5 := Lib.hid hg5
          have Hset5 : Hid (SetAt w5 z (n1 + 1) (fun a => if a = x then true else R a u)) := Lib.hid (MapAt.congr hset5 fun a _ => by
            show (if a = x then some (DataW.lit (Lit.bool true)) else bit (fun a => R a u) a) = bit (fun a => if a = x then true else R a u) a
            by_cases e : a = x <;> simp [bit, e])
          have Hs5 := Lib.hid hs5
          clear hset5 hg5 hs5 hsrc hux hzr hbr f0 f1 e1 hen
          go_wp2_with fail
          refine (copy_of_set w5 z (n1 + 1) n1 (M1 x) _ _ Hset5.out HSrc.out (fun e => HUX.out (HInj.out _ _ z HZ.out e)) (by omega)).mono ?_
          rintro e w6 ⟨rfl, hset6, hg6⟩
          have HG6 := Lib.hid (Hg5.out.trans hg6)
          have HR6 := Lib.hid (HR5.out.kept hg6 (fun e => by have := Option.some.inj e; have := (HV4.out.ends u z HZ.out).2.1; omega) (fun e => by have := Option.some.inj e; have := (HV4.out.ends u z HZ.out).2.2.2; omega))
          have HSet6 := Lib.hid hset6
          clear hset6 hg6 e3 f2
          go_wp2
          go_roundw
          case rel => exact ⟨_, cnt4, HR6.out, HV4.out.done HInj.out HZ.out HUX.out HUY.out HG6.out hr5.out (MapAt.mono HSet6.out (by omega))⟩
          case measure => rw [HR6.out.left_eq, HR.out.left_eq]; exact Hlt4.out
        · have hbe : (u == y) = false := by simpa using huy
          have HHuy := Lib.hid huy
          clear huy
          cases hcc : R y u
          · rw [hcc] at e1
            have HCC := Lib.hid hcc
            clear hcc
            go_wp2
            go_roundw
            case rel => exact ⟨_, cnt4, HR4.out, HV4.out.skip HLu.out HHuy.out HCC.out⟩
            case measure => rw [HR4.out.left_eq, HR.out.left_eq]; exact Hlt4.out
          · rw [hcc] at e1
            have HUY := Lib.hid (show u = y ∨ R y u = true from .inr hcc)
            clear hcc
            go_upto_region 8 with (first
              | (at_mapUpdate; refine wp_put _ rfl _ _ _ 179 rfl keyInt Tryz.underlying3 Tryz.underlying179 rfl HSz.out (by unfold maxLen; omega) x rfl (inR_wf HX.out) _ rfl (.lit (.bool true)) [] rfl ?_; intro w5 hset5 hg5 hs5)
              | go_in)
            have hux : u ≠ x := fun e => by
              subst e
              rcases HUY.out with h | h
              · exact HNe.out h
              · rw [HRf.out] at h; cases h
            have HUX := Lib.hid hux
            have hzr := HV4.out.ends u z HZ.out
            have hbr := HV4.out.pbr
            have HR5 := Lib.hid (HR4.out.kept hg5 (fun e => by have := Option.some.inj e; omega) (fun e => by have := Option.some.inj e; omega))
            have e3 := OutAt.look (M := fun v => (M1 v).map some) HR5.out.owns x (inR_wf HX.out)
            rw [elt_some] at e3
            have f2 : w5.cell? ⟨w.heap.size, 0, none⟩ = some (.int .i64 x) := (World.cell?_of_block (hg5.block w.heap.size (by have := hr5.out; omega) (fun e => by have := Option.some.inj e; omega))).trans f0
            have hsrc : OptSet w5 (M1 x) n1 (fun a => R a x) := by
              cases e : M1 x with
              | none =>
                intro a
                cases e' : R a x
                · exact e'
                · obtain ⟨z', hz'⟩ := HHas.out x a e'
                  rw [e] at hz'; cases hz'
              | some z' =>
                have hzz : z' ≠ z := fun e' => hux (HInj.out _ _ z HZ.out (e' ▸ e))
                exact MapAt.kept (HV4.out.src z' e) hg5 (fun e => hzz (Option.some.inj e))
            have HSrc := Lib.hid hsrc
            have Hg5 := Lib.hid hg5
            have Hset5 : Hid (SetAt w5 z (n1 + 1) (fun a => if a = x then true else R a u)) := Lib.hid (MapAt.congr hset5 fun a _ => by
              show (if a = x then some (DataW.lit (Lit.bool true)) else bit (fun a => R a u) a) = bit (fun a => if a = x then true else R a u) a
              by_cases e : a = x <;> simp [bit, e])
            have Hs5 := Lib.hid hs5
            clear hset5 hg5 hs5 hsrc hux hzr hbr f0 f1 e1 hen
            go_wp2_with fail
            refine (copy_of_set w5 z (n1 + 1) n1 (M1 x) _ _ Hset5.out HSrc.out (fun e => HUX.out (HInj.out _ _ z HZ.out e)) (by omega)).mono ?_
            rintro e w6 ⟨rfl, hset6, hg6⟩
            have HG6 := Lib.hid (Hg5.out.trans hg6)
            have HR6 := Lib.hid (HR5.out.kept hg6 (fun e => by have := Option.some.inj e; have := (HV4.out.ends u z HZ.out).2.1; omega) (fun e => by have := Option.some.inj e; have := (HV4.out.ends u z HZ.out).2.2.2; omega))
            have HSet6 := Lib.hid hset6
            clear hset6 hg6 e3 f2
            go_wp2
            go_roundw
            case rel => exact ⟨_, cnt4, HR6.out, HV4.out.done HInj.out HZ.out HUX.out HUY.out HG6.out hr5.out (MapAt.mono HSet6.out (by omega))⟩
            case measure => rw [HR6.out.left_eq, HR.out.left_eq]; exact Hlt4.out
  · rw [hMy] at e1
    have HMy0 := Lib.hid hMy
    clear hMy
    obtain ⟨w2, hw2⟩ : ∃ w2, w2 = w.alloc (.cells #[.int .i64 x, .int .i64 y] 78) := ⟨_, rfl⟩
    have HW2 := Lib.hid hw2
    obtain ⟨M1, hM1⟩ : ∃ M1 : Int → Option Nat, M1 = M := ⟨_, rfl⟩
    obtain ⟨n1, hn1⟩ : ∃ n1, n1 = n := ⟨_, rfl⟩
    have Hout2 : Hid (OutAt w2 b n1 (fun v => (M1 v).map some)) := Lib.hid (by rw [hn1, hM1, hw2]; exact HS1.out.out)
    have hold : ∀ v z, M v = some z → z < w.heap.size := fun v z hz => MapAt.lt (HS.out.sets v z hz).2.2
    have hs2 : w2.heap.size = w.heap.size + 1 := by rw [hw2]; simp
    have hset : ∀ v z, M1 v = some z → B ≤ z ∧ z ≠ b ∧ z ≠ w.heap.size ∧ z < w2.heap.size ∧ SetAt w2 z n (fun a => R a v) := fun v z hz => by
      rw [hM1] at hz
      have h4 := hold v z hz
      obtain ⟨h1, h2, h3⟩ := HS1.out.sets v z hz
      exact ⟨h1, h2, by omega, by omega, by rw [hw2]; exact h3⟩
    have HInj : Hid (∀ v v' z, M1 v = some z → M1 v' = some z → v = v') := Lib.hid (by rw [hM1]; exact HS.out.inj)
    have HHas : Hid (∀ v a, R a v = true → ∃ z, M1 v = some z) := Lib.hid (by rw [hM1]; exact HS.out.has)
    have HRng : Hid (∀ v z, M1 v = some z → InR v) := Lib.hid (by rw [hM1]; exact HS.out.rng)
    have HMy : Hid (∃ z, M1 y = some z) := Lib.hid (by rw [hM1]; exact ⟨_, HMy0.out⟩)
    have hbox2 : w2.heap[w.heap.size]? = some (.cells #[.int .i64 x, .int .i64 y] 78) := by rw [hw2]; exact heap_alloc_new w _
    have hb2 : Below B w w2 := by rw [hw2]; exact (Below.refl B w).alloc hB _
    have hn1' : n1 ≤ 100001 := by omega
    have hn2 : 2 * n1 + 1 ≤ 2 * n + 3 := by omega
    have HInv : Hid (∀ w3 L0, w2.grownBy w3 none → w3.heap.size = w2.heap.size + 1 → (∀ v, (Lit.int .i64 v).wf = true → L0 v = ((M1 v).map some |>.map refLit).isSome) → AddInv w3 w B b w.heap.size w2.heap.size n1 x y M1 R L0) := Lib.hid fun w3 L0 hg0 hs0 hL0 => by
      have hsl := hb2.size
      have hbl := MapAt.lt Hout2.out
      refine ⟨hb2.grown hg0 (by omega) (fun k hk => by cases hk), (hg0.block w.heap.size (Array.getElem?_eq_some_iff.1 hbox2).1 (by simp)).trans hbox2, fun v z hz => ?_, fun z hz => ?_, fun v z hz => ?_, (Array.getElem?_eq_some_iff.1 hbox2).1, by omega, hB, hbl, HS.out.low, by omega⟩
      · have hLv : L0 v = true := by
          rw [hL0 v (inR_wf (HRng.out v z hz)), hz]; rfl
        rw [hLv]
        exact MapAt.mono (MapAt.kept (hset v z hz).2.2.2.2 hg0 (by simp)) (by simp; omega)
      · exact MapAt.mono (MapAt.kept (hset x z hz).2.2.2.2 hg0 (by simp)) (by omega)
      · obtain ⟨h1, h2, h3, h4, _⟩ := hset v z hz
        exact ⟨h1, h2, h3, h4⟩
    have HOut := Hout2
    clear hw2 hold hs2 hset hbox2 hb2 HS1 HB1 hn1 hM1
    have eN := eq_nil_no
    go_enter Tryz.func131, Tryz.ntmps131
    go_upto_region 3 with (fail)
    clear eN e1
    rw [← HW2.out]
    clear HW2
    go_wp2_with (first
      | (at_range; refine wp_range _ rfl _ 126 rfl keyInt Tryz.underlying126 rfl HOut.out ?_; intro w3 L0 cnt0 hrg0 hL0 hc0 hg0 hs0)
      | go_in)
    try go_frame
    have HI0 := Lib.hid (HInv.out w3 L0 hg0 hs0 hL0)
    have HR0 := Lib.hid hrg0
    clear hrg0 hL0 hg0 hs0 HOut HInv
    go_loopw [17] (fun _ wr => ∃ (L : Int → Bool) (cnt : Nat), RangeAt Tryz.prog 3 refElem wr b w2.heap.size n1 (fun v => (M1 v).map some |>.map refLit) L cnt ∧ AddInv wr w B b w.heap.size w2.heap.size n1 x y M1 R L)
      (fun _ wr => wr.rangeLeft b w2.heap.size)
    case atStart => exact ⟨_, _, HR0.out, HI0.out⟩
    case round =>
      clear HR0 HI0
      obtain ⟨L, cnt, hrg, hinv⟩ := hrel
      have HV := Lib.hid hinv
      clear hinv
      go_wp2_with (first
        | (at_next; refine wp_next_ref _ rfl _ rfl rfl hrg ?_ ?_)
        | go_in)
      · intro hl0
        have HL := Lib.hid hl0
        clear hl0
        go_wp2
        go_end0
        exact ⟨rfl, ⟨M1, HV.out.fin HL.out hrg.owns HHas.out HMy.out HRng.out HInj.out _ (by omega)⟩, HV.out.low⟩
      · intro u z w4 cnt4 hcame
        have hr4 := hrg.lt
        have hz : M1 u = some z := by
          have := hcame.elem
          cases e : M1 u <;> simp [e] at this
          rw [this]
        have hlu := hcame.left
        have hrg4 := hcame.range
        have hlt4 := hcame.lt
        have hg4 := hcame.grown
        have hs4 := hcame.size
        have hen := hcame.entry
        clear hcame
        have HZ := Lib.hid hz
        have HLu := Lib.hid hlu
        have HV4 := Lib.hid (HV.out.kept hg4 hr4)
        obtain ⟨f0, f1⟩ := HV4.out.cells
        have hsz : SetAt w4 z n1 (fun a => R a u) := by
          have := HV4.out.sets u z hz
          rw [hlu] at this
          simpa using this
        have e1 := hsz.look y (inR_wf HY.out)
        have HSz := Lib.hid hsz
        have HR4 := Lib.hid hrg4
        have Hlt4 := Lib.hid hlt4
        have HR := Lib.hid hrg
        have hr5 : Hid (w2.heap.size < w4.heap.size) := Lib.hid (by rw [hs4]; exact hr4)
        clear hz hlu hrg hlt4 hg4 hs4 hr4 hrg4 hsz HV
        by_cases huy : u = y
        · obtain ⟨cc, hcc⟩ : ∃ cc : Bool, cc = R y u := ⟨_, rfl⟩
          rw [← hcc] at e1
          have HUY := Lib.hid (show u = y ∨ R y u = true from .inl huy)
          have hbe : (u == y) = true := by simpa using huy
          have HHuy := Lib.hid huy
          clear huy hcc
          go_upto_region 8 with (first
            | (at_mapUpdate; refine wp_put _ rfl _ _ _ 179 rfl keyInt Tryz.underlying3 Tryz.underlying179 rfl HSz.out (by unfold maxLen; omega) x rfl (inR_wf HX.out) _ rfl (.lit (.bool true)) [] rfl ?_; intro w5 hset5 hg5 hs5)
            | go_in)
          have hux : u ≠ x := fun e => by
            subst e
            rcases HUY.out with h | h
            · exact HNe.out h
            · rw [HRf.out] at h; cases h
          have HUX := Lib.hid hux
          have hzr := HV4.out.ends u z HZ.out
          have hbr := HV4.out.pbr
          have HR5 := Lib.hid (HR4.out.kept hg5 (fun e => by have := Option.some.inj e; omega) (fun e => by have := Option.some.inj e; omega))
          have e3 := OutAt.look (M := fun v => (M1 v).map some) HR5.out.owns x (inR_wf HX.out)
          rw [elt_some] at e3
          have f2 : w5.cell? ⟨w.heap.size, 0, none⟩ = some (.int .i64 x) := (World.cell?_of_block (hg5.block w.heap.size (by have := hr5.out; omega) (fun e => by have := Option.some.inj e; omega))).trans f0
          have hsrc : OptSet w5 (M1 x) n1 (fun a => R a x) := by
            cases e : M1 x with
            | none =>
              intro a
              cases e' : R a x
              · exact e'
              · obtain ⟨z', hz'⟩ := HHas.out x a e'
                rw [e] at hz'; cases hz'
            | some z' =>
              have hzz : z' ≠ z := fun e' => hux (HInj.out _ _ z HZ.out (e' ▸ e))
              exact MapAt.kept (HV4.out.src z' e) hg5 (fun e => hzz (Option.some.inj e))
          have HSrc := Lib.hid hsrc
          have Hg5 := Lib.hid hg5
          have Hset5 : Hid (SetAt w5 z (n1 + 1) (fun a => if a = x then true else R a u)) := Lib.hid (MapAt.congr hset5 fun a _ => by
            show (if a = x then some (DataW.lit (Lit.bool true)) else bit (fun a => R a u) a) = bit (fun a => if a = x then true else R a u) a
            by_cases e : a = x <;> simp [bit, e])
          have Hs5 := Lib.hid hs5
          clear hset5 hg5 hs5 hsrc hux hzr hbr f0 f1 e1 hen
          go_wp2_with fail
          refine (copy_of_set w5 z (n1 + 1) n1 (M1 x) _ _ Hset5.out HSrc.out (fun e => HUX.out (HInj.out _ _ z HZ.out e)) (by omega)).mono ?_
          rintro e w6 ⟨rfl, hset6, hg6⟩
          have HG6 := Lib.hid (Hg5.out.trans hg6)
          have HR6 := Lib.hid (HR5.out.kept hg6 (fun e => by have := Option.some.inj e; have := (HV4.out.ends u z HZ.out).2.1; omega) (fun e => by have := Option.some.inj e; have := (HV4.out.ends u z HZ.out).2.2.2; omega))
          have HSet6 := Lib.hid hset6
          clear hset6 hg6 e3 f2
          go_wp2
          go_roundw
          case rel => exact ⟨_, cnt4, HR6.out, HV4.out.done HInj.out HZ.out HUX.out HUY.out HG6.out hr5.out (MapAt.mono HSet6.out (by omega))⟩
          case measure => rw [HR6.out.left_eq, HR.out.left_eq]; exact Hlt4.out
        · have hbe : (u == y) = false := by simpa using huy
          have HHuy := Lib.hid huy
          clear huy
          cases hcc : R y u
          · rw [hcc] at e1
            have HCC := Lib.hid hcc
            clear hcc
            go_wp2
            go_roundw
            case rel => exact ⟨_, cnt4, HR4.out, HV4.out.skip HLu.out HHuy.out HCC.out⟩
            case measure => rw [HR4.out.left_eq, HR.out.left_eq]; exact Hlt4.out
          · rw [hcc] at e1
            have HUY := Lib.hid (show u = y ∨ R y u = true from .inr hcc)
            clear hcc
            go_upto_region 8 with (first
              | (at_mapUpdate; refine wp_put _ rfl _ _ _ 179 rfl keyInt Tryz.underlying3 Tryz.underlying179 rfl HSz.out (by unfold maxLen; omega) x rfl (inR_wf HX.out) _ rfl (.lit (.bool true)) [] rfl ?_; intro w5 hset5 hg5 hs5)
              | go_in)
            have hux : u ≠ x := fun e => by
              subst e
              rcases HUY.out with h | h
              · exact HNe.out h
              · rw [HRf.out] at h; cases h
            have HUX := Lib.hid hux
            have hzr := HV4.out.ends u z HZ.out
            have hbr := HV4.out.pbr
            have HR5 := Lib.hid (HR4.out.kept hg5 (fun e => by have := Option.some.inj e; omega) (fun e => by have := Option.some.inj e; omega))
            have e3 := OutAt.look (M := fun v => (M1 v).map some) HR5.out.owns x (inR_wf HX.out)
            rw [elt_some] at e3
            have f2 : w5.cell? ⟨w.heap.size, 0, none⟩ = some (.int .i64 x) := (World.cell?_of_block (hg5.block w.heap.size (by have := hr5.out; omega) (fun e => by have := Option.some.inj e; omega))).trans f0
            have hsrc : OptSet w5 (M1 x) n1 (fun a => R a x) := by
              cases e : M1 x with
              | none =>
                intro a
                cases e' : R a x
                · exact e'
                · obtain ⟨z', hz'⟩ := HHas.out x a e'
                  rw [e] at hz'; cases hz'
              | some z' =>
                have hzz : z' ≠ z := fun e' => hux (HInj.out _ _ z HZ.out (e' ▸ e))
                exact MapAt.kept (HV4.out.src z' e) hg5 (fun e => hzz (Option.some.inj e))
            have HSrc := Lib.hid hsrc
            have Hg5 := Lib.hid hg5
            have Hset5 : Hid (SetAt w5 z (n1 + 1) (fun a => if a = x then true else R a u)) := Lib.hid (MapAt.congr hset5 fun a _ => by
              show (if a = x then some (DataW.lit (Lit.bool true)) else bit (fun a => R a u) a) = bit (fun a => if a = x then true else R a u) a
              by_cases e : a = x <;> simp [bit, e])
            have Hs5 := Lib.hid hs5
            clear hset5 hg5 hs5 hsrc hux hzr hbr f0 f1 e1 hen
            go_wp2_with fail
            refine (copy_of_set w5 z (n1 + 1) n1 (M1 x) _ _ Hset5.out HSrc.out (fun e => HUX.out (HInj.out _ _ z HZ.out e)) (by omega)).mono ?_
            rintro e w6 ⟨rfl, hset6, hg6⟩
            have HG6 := Lib.hid (Hg5.out.trans hg6)
            have HR6 := Lib.hid (HR5.out.kept hg6 (fun e => by have := Option.some.inj e; have := (HV4.out.ends u z HZ.out).2.1; omega) (fun e => by have := Option.some.inj e; have := (HV4.out.ends u z HZ.out).2.2.2; omega))
            have HSet6 := Lib.hid hset6
            clear hset6 hg6 e3 f2
            go_wp2
            go_roundw
            case rel => exact ⟨_, cnt4, HR6.out, HV4.out.done HInj.out HZ.out HUX.out HUY.out HG6.out hr5.out (MapAt.mono HSet6.out (by omega))⟩
            case measure => rw [HR6.out.left_eq, HR.out.left_eq]; exact Hlt4.out
end Go.Proofs.YtadjoiahllekdaaGreatDoor.num
namespace Go.Proofs.YtadjoiahllekdaaGreatDoor.num
set_option maxRecDepth 20000
open Go.RowKit Go.Maps
set_option linter.unusedVariables false

theorem lt_cell {w : World} {b o : Nat} {v : Value} (h : w.cell? ⟨b, o, none⟩ = some v) : b < w.heap.size := by
  rcases Nat.lt_or_ge b w.heap.size with h' | h'
  · exact h'
  · simp [World.cell?, Array.getElem?_eq_none h'] at h
theorem isValue_of (v : Int) (q : Bool) (hq : q = true ↔ InR v) (w : World) :
    Calls Tryz.prog 129 #[.int .i64 v] w fun e w' => e = .returned (.bool q) ∧ w = w' := by
  obtain rfl : q = (decide (0 ≤ v) && decide (v ≤ 9)) := by rw [Bool.eq_iff_iff, hq]; simp [InR]
  clear hq
  by_cases h1 : 0 ≤ v
  · go_enter Tryz.func129, Tryz.ntmps129
    go_wp2
    go_ret
    exact ⟨by simp [h1], rfl⟩
  · go_enter Tryz.func129, Tryz.ntmps129
    go_wp2
    go_ret
    exact ⟨by simp; omega, rfl⟩

/-- aboveSets under way: behind k pairs. -/
def AboveRel (ps : List (Int × Int)) (B b : Nat) (w : World) (k : Nat) (wr : World) : Prop :=
  Good (ps.take k) ∧ (∃ (n : Nat) (M : Int → Option Nat), n + 3 ≤ 3 * 2 ^ k ∧ SetsR wr B b n M (rb (ps.take k))) ∧ Below B w wr ∧ b < wr.heap.size
/-- What aboveSets answers. -/
def AboveP (ps : List (Int × Int)) (B : Nat) (q : Bool) (o : Option Nat) (w : World) : Prop :=
  (q = false → o = none) ∧ (q = true → ∃ (b n : Nat) (M : Int → Option Nat), o = some b ∧ n ≤ 765 ∧ SetsR w B b n M (rb ps))
theorem AboveP.below {ps : List (Int × Int)} {B : Nat} {q : Bool} {o : Option Nat} {w w' : World} (h : AboveP ps B q o w) (hb : Below w.heap.size w w') : AboveP ps B q o w' :=
  ⟨h.1, fun hq => by obtain ⟨b, n, M, h1, h2, h3⟩ := h.2 hq; exact ⟨b, n, M, h1, h2, h3.below hb⟩⟩
theorem rb_step (ps : List (Int × Int)) (k : Nat) (p : Int × Int) (h : ps[k]? = some p) : rb (ps.take (k + 1)) = stepR (rb (ps.take k)) p := by
  rw [ptake_at h]
  unfold rb
  rw [List.foldl_append]
  rfl
set_option maxHeartbeats 800000 in
theorem above_of (w : World) (B : Nat) (A : Option Addr) (n c : Nat) (ps : List (Int × Int)) (hi : Pairs w B A n ps) (hB : B ≤ w.heap.size) (hn : n ≤ 1048576) (q : Bool) (hq : q = true ↔ OkP ps) :
    Calls Tryz.prog 102 #[.slice A n c] w fun e w' => (∃ o, e = .returned (.tuple #[.map o, .bool q]) ∧ AboveP ps w.heap.size q o w') ∧ Below w.heap.size w w' := by
  have HX := Lib.hid hi
  have HQ := Lib.hid hq
  clear hi hq
  by_cases h8 : (n : Int) ≤ 8
  · have hmm := @run_makeMap Tryz.prog
    go_enter Tryz.func102, Tryz.ntmps102
    go_wp2
    clear hmm
    go_loopw [13] (fun i wr => ∃ k : Nat, k ≤ n ∧ i = .int .i64 k ∧ AboveRel ps w.heap.size w.heap.size w k wr) (fun i _ => n - (intOf i).toNat)
    case atStart =>
      refine ⟨0, Nat.zero_le _, rfl, Good.nil, ⟨0, fun _ => none, by decide, ?_⟩, (Below.refl _ _).alloc (Nat.le_refl _) _, by simp⟩
      exact ⟨OutAt.made w, Nat.le_refl _, (fun v a h => by cases h), (fun v x h => by cases h), (fun v x h => by cases h), (fun v v' x h => by cases h)⟩
    case round =>
      obtain ⟨k, hk, rfl, hgood, ⟨m, M, hm, hsets⟩, hbel, hbs⟩ := hrel
      have HG := Lib.hid hgood
      have HS := Lib.hid hsets
      have HB := Lib.hid hbel
      have HM := Lib.hid hm
      clear hgood hsets hm
      by_cases hlt : k < n
      · obtain ⟨b1, off, x, y, rfl, hb1, hat, hc1, hc2⟩ := HX.out.at k hlt
        have f1 := (hbel.cell (p := ⟨b1, off + k * 2, none⟩) (by exact Nat.lt_of_lt_of_le hb1 hB)).trans hc1
        have f2 := (hbel.cell (p := ⟨b1, off + k * 2 + 1, none⟩) (by exact Nat.lt_of_lt_of_le hb1 hB)).trans hc2
        have HT := Lib.hid hat
        obtain ⟨q1, hq1⟩ := bool_of (InR x)
        obtain ⟨q2, hq2⟩ := bool_of (InR y)
        have HQ1 := Lib.hid hq1
        have HQ2 := Lib.hid hq2
        have hbad : ¬ Good (ps.take (k + 1)) → q = false := fun h => by
          cases q
          · rfl
          · exact absurd (good_take (HQ.out.1 rfl).1 _) h
        have HBad := Lib.hid hbad
        have hgs := good_snoc (ps := ps.take k) (p := (x, y))
        rw [← ptake_at hat] at hgs
        have HGS := Lib.hid hgs
        clear hat hq1 hq2 hbad hgs hc1 hc2 hbel
        go_wp2_with fail
        refine (isValue_of x q1 HQ1.out _).mono ?_
        rintro e w1 ⟨rfl, hw1⟩
        have hb1' : Below wr.heap.size wr w1 := by
          rw [← hw1]
          exact (Below.refl _ wr).alloc (Nat.le_refl _) _
        have hcell : w1.cell? ⟨wr.heap.size, 0, none⟩ = some (.int .i64 x) ∧ w1.cell? ⟨wr.heap.size, 1, none⟩ = some (.int .i64 y) := by
          rw [← hw1]
          constructor <;> (rw [World.cell?_alloc_at _ _ _ _ rfl]; rfl)
        obtain ⟨g1, g2⟩ := hcell
        have HW := Lib.hid hb1'
        have HS1 := Lib.hid (HS.out.below hb1')
        clear f1 f2 hb1' hw1 HS
        cases q1
        · obtain rfl : q = false := HBad.out fun h => by
            have := HQ1.out.2 (HGS.out.1 h).2.1
            cases this
          go_wp2
          go_ret2
          exact ⟨⟨_, rfl, (fun _ => rfl), fun h => by cases h⟩, HB.out.trans (HW.out.mono HB.out.size)⟩
        · go_wp2_with fail
          refine (isValue_of y q2 HQ2.out _).mono ?_
          rintro e w2 ⟨rfl, rfl⟩
          cases q2
          · obtain rfl : q = false := HBad.out fun h => by
              have := HQ2.out.2 (HGS.out.1 h).2.2.1
              cases this
            go_wp2
            go_ret2
            exact ⟨⟨_, rfl, (fun _ => rfl), fun h => by cases h⟩, HB.out.trans (HW.out.mono HB.out.size)⟩
          · have HIX := Lib.hid (HQ1.out.1 (by first | rfl | trivial))
            have HIY := Lib.hid (HQ2.out.1 (by first | rfl | trivial))
            obtain ⟨q3, hq3⟩ := bool_of (x = y ∨ rb (ps.take k) y x = true)
            have HQ3 := Lib.hid hq3
            clear hq3
            go_wp2_with fail
            refine (closes_of w1 w.heap.size w.heap.size m M _ HS1.out x y HIX.out HIY.out q3 HQ3.out).mono ?_
            rintro e w2 ⟨rfl, hb2⟩
            have HW2 := Lib.hid (HW.out.trans (hb2.mono HW.out.size))
            have HS2 := Lib.hid (HS1.out.below hb2)
            have g3 := (hb2.cell (p := ⟨wr.heap.size, 0, none⟩) (by have := g1; exact lt_cell g1)).trans g1
            have g4 := (hb2.cell (p := ⟨wr.heap.size, 1, none⟩) (by exact lt_cell g1)).trans g2
            clear hb2 g1 g2 HS1 HW
            cases q3
            · have hne : x ≠ y := fun e => by have := HQ3.out.2 (.inl e); cases this
              have hrf : rb (ps.take k) y x = false := by
                cases e : rb (ps.take k) y x
                · rfl
                · have := HQ3.out.2 (.inr e); cases this
              have HNE := Lib.hid hne
              have HRF := Lib.hid hrf
              have hm1 : m ≤ 100000 := by
                have h1 := HM.out
                have h2 : 2 ^ k ≤ 2 ^ 8 := Nat.pow_le_pow_right (by decide) (by omega)
                omega
              clear hne hrf
              go_wp2_with fail
              refine (add_of w2 w.heap.size w.heap.size m M _ HS2.out (Nat.le_trans HB.out.size HW2.out.size) hm1 x y HIX.out HIY.out HNE.out HRF.out).mono ?_
              rintro e w3 ⟨rfl, hset, hb3⟩
              have HB3 := Lib.hid ((HB.out.trans (HW2.out.mono HB.out.size)).trans hb3)
              have HSet := Lib.hid hset
              clear hset hb3 g3 g4 HS2
              go_wp2
              go_roundw
              case rel =>
                obtain ⟨M', hM'⟩ := HSet.out
                refine ⟨k + 1, by omega, by go_num, HGS.out.2 ⟨HG.out, HIX.out, HIY.out, HNE.out, HRF.out⟩, ⟨2 * m + 3, M', ?_, ?_⟩, HB3.out, MapAt.lt hM'.out⟩
                · have h1 := HM.out
                  rw [Nat.pow_succ]; omega
                · rw [rb_step ps k (x, y) HT.out]; exact hM'
              case measure => simp [intOf]; omega
            · obtain rfl : q = false := HBad.out fun h => by
                have h1 := (HGS.out.1 h).2.2.2
                rcases HQ3.out.1 (by first | rfl | trivial) with e | e
                · exact h1.1 e
                · rw [h1.2] at e; cases e
              go_wp2
              go_ret2
              exact ⟨⟨_, rfl, (fun _ => rfl), fun h => by cases h⟩, HB.out.trans (HW2.out.mono HB.out.size)⟩
      · obtain rfl : k = n := by omega
        have hg := HG.out
        have hs := HS.out
        rw [ptake_all HX.out.1] at hg hs
        have hok : OkP ps := ⟨hg, by rw [HX.out.1]; omega⟩
        obtain rfl : q = true := HQ.out.2 hok
        have hm1 : m ≤ 765 := by
          have h1 := HM.out
          have h2 : 2 ^ k ≤ 2 ^ 8 := Nat.pow_le_pow_right (by decide) (by omega)
          omega
        have HSF := Lib.hid hs
        clear hg hs hok hbel
        go_wp2
        go_ret2
        exact ⟨⟨_, rfl, (fun h => by cases h), fun _ => ⟨_, m, M, rfl, hm1, HSF.out⟩⟩, HB.out⟩
  · obtain rfl : q = false := by
      cases q
      · rfl
      · have := (HQ.out.1 rfl).2
        rw [HX.out.1] at this
        omega
    go_enter Tryz.func102, Tryz.ntmps102
    go_wp2
    go_ret2
    exact ⟨⟨_, rfl, (fun _ => rfl), fun h => by cases h⟩, Below.refl _ _⟩
end Go.Proofs.YtadjoiahllekdaaGreatDoor.num
namespace Go.Proofs.YtadjoiahllekdaaGreatDoor.num
set_option maxRecDepth 20000
open Go.RowKit Go.Maps
set_option linter.unusedVariables false

/-- Two lookups, one behind the other, in what aboveSets answered. -/
theorem AboveP.look {ps : List (Int × Int)} {B : Nat} {q : Bool} {o : Option Nat} {w : World} (h : AboveP ps B q o w) {v a : Int} (hv : (Lit.int .i64 v).wf = true) (ha : (Lit.int .i64 a).wf = true) :
    ∃ o2, (Instr.lookup 126 (.map o) (.int .i64 v) false).run Tryz.prog w = .ok (.map o2) w ∧ (Instr.lookup 179 (.map o2) (.int .i64 a) false).run Tryz.prog w = .ok (.bool (q && rb ps a v)) w := by
  cases q
  · obtain rfl := h.1 rfl
    exact ⟨none, nil_out w v hv, by simpa using nil_look w a ha⟩
  · obtain ⟨b, n, M, rfl, _, hs⟩ := h.2 rfl
    refine ⟨M v, ?_, ?_⟩
    · have := OutAt.look hs.out v hv
      rw [elt_some] at this
      exact this
    · simpa using (hs.opt v).look a ha
theorem iArePairs (w : World) (B : Nat) (A : Option Addr) (n c : Nat) (ps : List (Int × Int)) (hi : Pairs w B A n ps) (hB : B ≤ w.heap.size) (hn : n ≤ 1048576) (q : Bool) (hq : q = true ↔ OkP ps) :
    Calls Tryz.prog 52 #[.slice A n c] w fun e w' => e = .returned (.bool q) ∧ Below w.heap.size w w' := by
  go_enter Tryz.func52, Tryz.ntmps52
  go_wp2_with fail
  refine (above_of w B A n c ps hi hB hn q hq).mono ?_
  rintro e w1 ⟨⟨o, rfl, _⟩, hb1⟩
  go_wp2
  go_ret
  exact ⟨rfl, hb1⟩
/-- The closure's first part, if there is one. -/
def cq (ps : List (Int × Int)) (q : Bool) (k : Nat) : List (Int × Int) := if q then clo ps k else []
theorem cq_zero (ps : List (Int × Int)) (q : Bool) : cq ps q 0 = [] := by cases q <;> rfl
theorem cq_succ (ps : List (Int × Int)) (q : Bool) {a b : Nat} (ha : a < 10) (hb : b < 10) : cq ps q (a * 10 + (b + 1)) = if (q && rb ps a b) = true then cq ps q (a * 10 + b) ++ [((a : Int), (b : Int))] else cq ps q (a * 10 + b) := by
  cases q
  · rfl
  · exact clo_succ ps ha hb
theorem cq_len (ps : List (Int × Int)) (q : Bool) (k : Nat) : (cq ps q k).length ≤ 100 := by
  cases q
  · simp [cq]
  · exact clo_len ps k
theorem nat_wf {k : Nat} (h : k ≤ 10) : (Lit.int .i64 (k : Int)).wf = true := WalkArith.wf_i64 (by omega)
theorem OwnP.low {w : World} {B B' : Nat} {v : Value} {l : List (Int × Int)} (h : OwnP w B v l) (hB : B' ≤ B) : OwnP w B' v l :=
  ⟨h.1, h.2.imp id fun ⟨g, cap, cur, h1, h2, h3⟩ => ⟨g, cap, cur, h1, Nat.le_trans hB h2, h3⟩⟩
end Go.Proofs.YtadjoiahllekdaaGreatDoor.num
namespace Go.Proofs.YtadjoiahllekdaaGreatDoor.num
set_option maxRecDepth 20000
open Go.RowKit Go.Maps
set_option linter.unusedVariables false
set_option linter.unusedSimpArgs false

theorem pair_bytes (x y : Int) : fmtB x ++ ⟨#[62]⟩ ++ fmtB y = ⟨(pairT (x, y)).toArray⟩ := by
  apply bytes_ext
  simp [pairT, fmtB, ByteArray.data_append]
theorem fmt_R {n : Int} (h : InR n) : (fmtB n).size ≤ 2 := fmt_small n (inR2 h).1 (inR2 h).2
set_option maxRecDepth 20000 in
set_option maxHeartbeats 1600000 in
theorem iFmtPair (w : World) (x y : Int) (hx : InR x) (hy : InR y) (hpow : Pow w) :
    Calls Tryz.prog 54 #[.agg #[.int .i64 x, .int .i64 y]] w fun e w' => e = .returned (.string ⟨(pairT (x, y)).toArray⟩) ∧ Below w.heap.size w w' := by
  have HPw := Lib.hid hpow
  have hfx := fmt_R hx
  have hfy := fmt_R hy
  have hx0 := inR2 hx
  have hy0 := inR2 hy
  have hcat1 : ¬ (9223372036854775807 < (fmtB x).size + 1) := by omega
  have hcat2 : ¬ (9223372036854775807 < (fmtB x).size + 1 + (fmtB y).size) := by omega
  clear hpow hx hy
  go_enter Tryz.func54, Tryz.ntmps54
  go_wp2
  obtain ⟨wg, hwg⟩ : ∃ wg, wg = w.alloc (.cells #[.int .i64 x, .int .i64 y] 78) := ⟨_, rfl⟩
  rw [← hwg]
  have HB1 : Hid (Below w.heap.size w wg) := Lib.hid (by rw [hwg]; exact (Below.refl _ w).alloc (Nat.le_refl _) _)
  have hg : w.heap.size < wg.heap.size := by rw [hwg]; simp
  have q0 : wg.cell? ⟨w.heap.size, 0, none⟩ = some (.int .i64 x) := by rw [hwg]; exact World.cell?_alloc_at _ _ _ _ rfl
  have q1 : wg.cell? ⟨w.heap.size, 1, none⟩ = some (.int .i64 y) := by rw [hwg]; exact World.cell?_alloc_at _ _ _ _ rfl
  clear hwg
  have hs0 : Below wg.heap.size wg wg.drew ∧ wg.drew.cell? ⟨w.heap.size, 0, none⟩ = some (.int .i64 x) ∧ wg.drew.cell? ⟨w.heap.size, 1, none⟩ = some (.int .i64 y) := ⟨(Below.refl _ _).drew, q0, q1⟩
  refine wp_region_held (S := fun w' => Below wg.heap.size wg w' ∧ w'.cell? ⟨w.heap.size, 0, none⟩ = some (.int .i64 x) ∧ w'.cell? ⟨w.heap.size, 1, none⟩ = some (.int .i64 y)) (by kernel_rfl) ?_
  change wpAnyH _ _ _ _ _ _ _ _ (World.drew _)
  refine takeY 3 (i := 0) (v := ?v0a) rfl rfl (by kernel_rfl) (by kernel_rfl) (by kernel_rfl) (fun _ _ _ h => h) (by kernel_rfl) ?y0a hs0 ?_
  case y0a =>
    intro w' hw'; (try dsimp only at hw'); obtain ⟨e0, e1, e2⟩ := hw'; go_simp; try with_reducible rfl
  simp only [Act.put, List.setIfInBounds_toArray, List.set_cons_zero, List.set_cons_succ]
  refine takeY 4 (i := 1) (v := ?v1a) rfl rfl (by kernel_rfl) (by kernel_rfl) (by kernel_rfl) (fun _ _ _ h => h) (by kernel_rfl) ?y1a hs0 ?_
  case y1a =>
    intro w' hw'; (try dsimp only at hw'); obtain ⟨e0, e1, e2⟩ := hw'; go_simp; try with_reducible rfl
  simp only [Act.put, List.setIfInBounds_toArray, List.set_cons_zero, List.set_cons_succ]
  refine takeY 7 (i := 4) (v := ?v4a) rfl rfl (by kernel_rfl) (by kernel_rfl) (by kernel_rfl) (fun _ _ _ h => h) (by kernel_rfl) ?y4a hs0 ?_
  case y4a =>
    intro w' hw'; (try dsimp only at hw'); obtain ⟨e0, e1, e2⟩ := hw'; go_simp; try with_reducible rfl
  simp only [Act.put, List.setIfInBounds_toArray, List.set_cons_zero, List.set_cons_succ]
  refine takeY 8 (i := 5) (v := ?v5a) rfl rfl (by kernel_rfl) (by kernel_rfl) (by kernel_rfl) (fun _ _ _ h => h) (by kernel_rfl) ?y5a hs0 ?_
  case y5a =>
    intro w' hw'; (try dsimp only at hw'); obtain ⟨e0, e1, e2⟩ := hw'; go_simp; try with_reducible rfl
  simp only [Act.put, List.setIfInBounds_toArray, List.set_cons_zero, List.set_cons_succ]
  refine wpAnyH_ready (rs := [2]) (by kernel_rfl) (by simp) ?_
  refine AllReadyH.cons rfl (fun K hK => ?_) AllReadyH.nil
  go_simp; go_at_call 46; refine (iFormat x (by omega) (by omega) _ (HPw.out.below HB1.out.drew)).mono ?_; rintro e w3 ⟨rfl, h3⟩; replace h3 := (Below.refl wg.heap.size wg).drew.trans (h3.mono (Nat.le_refl _))
  refine hK.out _ _ ⟨h3, (h3.cell (p := ⟨w.heap.size, 0, none⟩) hg).trans q0, (h3.cell (p := ⟨w.heap.size, 1, none⟩) hg).trans q1⟩ (fun hS1 => ?_)
  clear hK K
  try simp only [Act.put, List.setIfInBounds_toArray, List.set_cons_zero, List.set_cons_succ]
  refine takeY 6 (i := 3) (v := ?v3a) rfl rfl (by kernel_rfl) (by kernel_rfl) (by kernel_rfl) (fun _ _ _ h => h) (by kernel_rfl) ?y3a hS1 ?_
  case y3a =>
    intro w' hw'; (try dsimp only at hw'); obtain ⟨e0, e1, e2⟩ := hw'; go_simp; try with_reducible rfl
  simp only [Act.put, List.setIfInBounds_toArray, List.set_cons_zero, List.set_cons_succ]
  refine wpAnyH_ready (rs := [6]) (by kernel_rfl) (by simp) ?_
  refine AllReadyH.cons rfl (fun K hK => ?_) AllReadyH.nil
  go_simp; go_at_call 46; refine (iFormat y (by omega) (by omega) _ (HPw.out.below (HB1.out.trans (h3.mono HB1.out.size)))).mono ?_; rintro e w4 ⟨rfl, h4⟩; replace h4 := h3.trans (h4.mono h3.size)
  refine hK.out _ _ ⟨h4, (h4.cell (p := ⟨w.heap.size, 0, none⟩) hg).trans q0, (h4.cell (p := ⟨w.heap.size, 1, none⟩) hg).trans q1⟩ (fun hS2 => ?_)
  clear hK K
  try simp only [Act.put, List.setIfInBounds_toArray, List.set_cons_zero, List.set_cons_succ]
  refine takeY 10 (i := 7) (v := ?v7a) rfl rfl (by kernel_rfl) (by kernel_rfl) (by kernel_rfl) (fun _ _ _ h => h) (by kernel_rfl) ?y7a hS2 ?_
  case y7a =>
    intro w' hw'; (try dsimp only at hw'); obtain ⟨e0, e1, e2⟩ := hw'; go_simp; try with_reducible rfl
  simp only [Act.put, List.setIfInBounds_toArray, List.set_cons_zero, List.set_cons_succ]
  refine takeY 2 (i := 8) (v := ?v8a) rfl rfl (by kernel_rfl) (by kernel_rfl) (by kernel_rfl) (fun _ _ _ h => h) (by kernel_rfl) ?y8a hS2 ?_
  case y8a =>
    intro w' hw'; (try dsimp only at hw'); obtain ⟨e0, e1, e2⟩ := hw'; go_simp; try with_reducible rfl
  simp only [Act.put, List.setIfInBounds_toArray, List.set_cons_zero, List.set_cons_succ]
  refine wpAnyH_done (by kernel_rfl) ?_ _
  clear hcat1 hcat2 hfx hfy
  go_wp2
  go_ret
  exact ⟨by rw [← pair_bytes]; rfl, HB1.out.trans (h4.mono HB1.out.size)⟩

def wordP (ps : List (Int × Int)) (j : Nat) : ByteArray := ⟨(pairT (ps.getD j (0, 0))).toArray⟩
theorem wordP_at {ps : List (Int × Int)} {k : Nat} {p : Int × Int} (h : ps[k]? = some p) : wordP ps k = ⟨(pairT p).toArray⟩ := by
  unfold wordP
  rw [List.getD_eq_getElem?_getD, h]; rfl
set_option maxHeartbeats 1600000 in
theorem iJoinP (w : World) (B : Nat) (A : Option Addr) (n cc : Nat) (ps : List (Int × Int)) (hi : Pairs w B A n ps) (hB : B ≤ w.heap.size) (h8 : n ≤ 8) (h : ∀ p, p ∈ ps → InR p.1 ∧ InR p.2) (hpow : Pow w) :
    Calls Tryz.prog 53 #[.slice A n cc, .string ⟨#[44]⟩, .func (.func 54) #[] #[]] w fun e w' => e = .returned (.string ⟨(Lib.join (ps.map pairT) [44]).toArray⟩) ∧ Below w.heap.size w w' := by
  have hmk := run_make_row' (P := Tryz.prog) 86 9 (.string ⟨#[]⟩) 16 Tryz.underlying86 info_string rfl .i64 .i64 n (by omega) (by omega)
  have HX := Lib.hid hi
  have HP := Lib.hid hpow
  have HR0 := Lib.hid h
  clear hi hpow h
  go_enter Tryz.func53, Tryz.ntmps53
  go_wp2
  clear hmk
  go_loopw [15] (fun i wr => ∃ k : Nat, k ≤ n ∧ i = .int .i64 k ∧ wr.rowIs w.heap.size 9 n (fun j => if j < k then .string (wordP ps j) else .string ⟨#[]⟩) ∧ Below w.heap.size w wr) (fun i _ => n - (intOf i).toNat)
  case atStart =>
    exact ⟨0, Nat.zero_le _, rfl, by simpa using World.rowIs_made w (.string ⟨#[]⟩) n 9, (Below.refl _ _).alloc (Nat.le_refl _) _⟩
  case round =>
    obtain ⟨k, hk, rfl, hrow, hbel⟩ := hrel
    have HR := Lib.hid hrow
    have HB := Lib.hid hbel
    by_cases hlt : k < n
    · obtain ⟨b1, off, x, y, rfl, hb1, hat, hc1, hc2⟩ := HX.out.at k hlt
      have f1 := (hbel.cell (p := ⟨b1, off + k * 2, none⟩) (by exact Nat.lt_of_lt_of_le hb1 hB)).trans hc1
      have f2 := (hbel.cell (p := ⟨b1, off + k * 2 + 1, none⟩) (by exact Nat.lt_of_lt_of_le hb1 hB)).trans hc2
      have HT := Lib.hid hat
      have HRng := Lib.hid (HR0.out (x, y) (List.mem_of_getElem? hat))
      have hx1 := hbel.alloc hbel.size (.cells #[.int .i64 x, .int .i64 y] 78)
      have hx2 := (Below.refl wr.heap.size wr).alloc (Nat.le_refl _) (.cells #[.int .i64 x, .int .i64 y] 78)
      have HX1 := Lib.hid hx1
      have HX2 := Lib.hid hx2
      have hlt' : (k : Int) < (n : Int) := by omega
      clear hrow hbel hc1 hc2 hat hx1 hx2
      go_wp2_with fail
      refine (iFmtPair _ x y HRng.out.1 HRng.out.2 (HP.out.below HX1.out)).mono ?_
      rintro e w1 ⟨rfl, hb⟩
      have HB2 := Lib.hid (HX2.out.trans (hb.mono HX2.out.size))
      have hrow1 := rowIs_below HR.out HB2.out (World.rowIs.lt HR.out)
      have g1 : w1.cell? ⟨w.heap.size, k, none⟩ = some (.string ⟨#[]⟩) := by rw [World.rowIs.cell hrow1 hlt, if_neg (by omega)]
      have g2 := World.rowIs.frozen hrow1 k
      have HR1 := Lib.hid hrow1
      have HB1 := Lib.hid (HX1.out.trans (hb.mono HX1.out.size))
      clear hb hrow1 f1 f2
      go_wp2
      go_roundw
      case rel =>
        refine ⟨k + 1, by omega, by go_num, (World.rowIs.set HR1.out k (.string ⟨(pairT (x, y)).toArray⟩)).congr (fun j _ => ?_), HB1.out.setCell (Nat.le_refl _) _⟩
        by_cases h1 : j = k
        · subst h1; rw [if_pos rfl, if_pos (by omega), wordP_at HT.out]
        · by_cases h2 : j < k
          · rw [if_neg h1, if_pos h2, if_pos (by omega)]
          · rw [if_neg h1, if_neg h2, if_neg (by omega)]
      case measure => simp [intOf]; omega
    · obtain rfl : k = n := by omega
      obtain ⟨xs, hxs⟩ : ∃ xs : List ByteArray, xs = ps.map fun p => ⟨(pairT p).toArray⟩ := ⟨_, rfl⟩
      have hxl : xs.length = k := by rw [hxs, List.length_map]; exact HX.out.1
      have hmap : xs.map (·.data.toList) = ps.map pairT := by rw [hxs, List.map_map]; rfl
      have hcells : ∀ (j : Nat) x, xs[j]? = some x → wr.cell? ⟨w.heap.size, 0 + j, none⟩ = some (.string x) := by
        intro j x hx
        have hj : j < k := by
          rcases Nat.lt_or_ge j xs.length with h' | h'
          · omega
          · rw [List.getElem?_eq_none h'] at hx; cases hx
        rw [hxs, List.getElem?_map] at hx
        obtain ⟨p, hp, rfl⟩ := Option.map_eq_some_iff.1 hx
        rw [Nat.zero_add, World.rowIs.cell hrow hj, if_pos hj, wordP_at hp]
      have hsz : (Lib.join (xs.map (·.data.toList)) (⟨#[44]⟩ : ByteArray).data.toList).length ≤ 140737488355328 := by
        rw [hmap]
        have := join_le (m := 5) 44 (ps.map pairT) fun x hx => by
          obtain ⟨p, hp, rfl⟩ := List.mem_map.1 hx
          exact pairT_len (HR0.out p hp)
        rw [List.length_map, HX.out.1] at this
        show (Lib.join (ps.map pairT) [44]).length ≤ _
        omega
      have hJ := Tryz.strings_Join w.heap.size 0 k xs ⟨#[44]⟩ wr hcells (World.rowIs.lt hrow) (by omega) (by omega) hsz
      rw [hxl, hmap] at hJ
      have HJ := Lib.hid hJ
      clear hrow hbel hcells hJ hsz hmap hxl hxs
      go_wp2_with fail
      refine HJ.out.mono ?_
      rintro e w1 ⟨rfl, hb⟩
      have HB1 := Lib.hid (HB.out.trans (hb.mono HB.out.size))
      clear hb
      go_wp2
      go_ret
      exact ⟨rfl, HB1.out⟩

theorem OkP.n8 {w : World} {B : Nat} {A : Option Addr} {n : Nat} {ps : List (Int × Int)} (h : OkP ps) (hi : Pairs w B A n ps) : n ≤ 8 := by have := h.2; have := hi.1; omega
set_option maxHeartbeats 1600000 in
theorem iFmtP (w : World) (B : Nat) (A : Option Addr) (n c : Nat) (ps : List (Int × Int)) (hi : Pairs w B A n ps) (hB : B ≤ w.heap.size) (hn : n ≤ 1048576) (q : Bool) (hq : q = true ↔ OkP ps) (hpow : Pow w) :
    Calls Tryz.prog 10 #[.slice A n c] w fun e w' => e = .returned (.string (fmtP ps q)) ∧ Below w.heap.size w w' := by
  have HX := Lib.hid hi
  have HQ := Lib.hid hq
  have HP := Lib.hid hpow
  clear hi hq hpow
  go_enter Tryz.func10, Tryz.ntmps10
  go_wp2_with fail
  refine (iArePairs w B A n c ps HX.out hB hn q HQ.out).mono ?_
  rintro e w1 ⟨rfl, hb1⟩
  have HB1 := Lib.hid hb1
  clear hb1
  cases q
  · go_wp2
    go_ret
    exact ⟨rfl, HB1.out⟩
  · have hok := HQ.out.1 (by first | rfl | trivial)
    have h8 := hok.n8 HX.out
    have HOk := Lib.hid hok
    clear hok
    by_cases h0 : n = 0
    · have hps : Hid (ps = []) := Lib.hid (List.eq_nil_of_length_eq_zero (HX.out.1.trans h0))
      subst h0
      go_wp2
      go_ret
      exact ⟨by rw [hps.out]; rfl, HB1.out⟩
    · have hps : Hid (ps ≠ []) := Lib.hid fun e => h0 (by rw [← HX.out.1, e]; rfl)
      have hne : ((n : Int) == 0) = false := by simpa using h0
      go_wp2_with fail
      refine (iJoinP w1 B A n c ps (HX.out.below (HB1.out.mono hB)) (Nat.le_trans hB HB1.out.size) h8 HOk.out.1.rng (HP.out.below HB1.out)).mono ?_
      rintro e w2 ⟨rfl, hb2⟩
      have HB2 := Lib.hid (HB1.out.trans (hb2.mono HB1.out.size))
      clear hb2
      go_wp2
      go_ret
      exact ⟨by unfold fmtP pairsT; rw [if_pos rfl, if_neg hps.out]; rfl, HB2.out⟩

set_option maxRecDepth 20000 in
set_option maxHeartbeats 3200000 in
theorem sFmtP (w : World) (B : Nat) (A : Option Addr) (n c : Nat) (ps : List (Int × Int)) (hi : Pairs w B A n ps) (hB : B ≤ w.heap.size) (hn : n ≤ 1048576) (q : Bool) (hq : q = true ↔ OkP ps) :
    Calls Tryz.prog 14 #[.slice A n c] w fun e w' => e = .returned (.string (fmtP ps q)) ∧ Below w.heap.size w w' := by
  have HX := Lib.hid hi
  have HQ := Lib.hid hq
  clear hi hq
  go_enter Tryz.func14, Tryz.ntmps14
  go_wp2_with fail
  refine (sArePairs w B A n c ps HX.out hB hn q HQ.out).mono ?_
  rintro e w1 ⟨rfl, hb1⟩
  have HB1 := Lib.hid hb1
  clear hb1
  cases q
  · go_wp2
    go_ret
    exact ⟨rfl, HB1.out⟩
  · have hok := HQ.out.1 (by first | rfl | trivial)
    have h8 := hok.n8 HX.out
    have HOk := Lib.hid hok
    clear hok
    go_wp2
    go_loopw [3, 4] (fun s i wr => ∃ k : Nat, k ≤ n ∧ i = .int .i64 k ∧ s = .string (preP ps k) ∧ Below w.heap.size w wr) (fun _ i _ => n - (intOf i).toNat)
    case atStart => exact ⟨0, Nat.zero_le _, rfl, rfl, HB1.out⟩
    case round =>
      clear HB1
      obtain ⟨k, hk, rfl, rfl, hbel⟩ := hrel
      have HB := Lib.hid hbel
      have hpre := preP_small HOk.out.1.rng k
      by_cases hlt : k < n
      · obtain ⟨b1, off, x, y, rfl, hb1, hat, hc1, hc2⟩ := HX.out.at k hlt
        have f1 := (hbel.cell (p := ⟨b1, off + k * 2, none⟩) (by exact Nat.lt_of_lt_of_le hb1 hB)).trans hc1
        have f2 := (hbel.cell (p := ⟨b1, off + k * 2 + 1, none⟩) (by exact Nat.lt_of_lt_of_le hb1 hB)).trans hc2
        have hl1 : b1 < wr.heap.size := Nat.lt_of_lt_of_le hb1 (Nat.le_trans hB hbel.size)
        have hrng := HOk.out.1.rng (x, y) (List.mem_of_getElem? hat)
        have hfx := fmt_R hrng.1
        have hfy := fmt_R hrng.2
        obtain ⟨hx0, hx1⟩ := inR2 hrng.1
        obtain ⟨hy0, hy1⟩ := inR2 hrng.2
        have hlt' : (k : Int) < (n : Int) := by omega
        dsimp only at hfx hfy hx0 hx1 hy0 hy1
        by_cases hk0 : k = 0
        · have hstep : preP ps k ++ fmtB x ++ ⟨#[62]⟩ ++ fmtB y = preP ps (k + 1) := by
            subst hk0
            rw [preP_zero]
            exact preP_one hat
          obtain ⟨sb, hsb⟩ : ∃ sb : ByteArray, sb = preP ps k := ⟨_, rfl⟩
          rw [← hsb] at hstep hpre ⊢
          have HStep := Lib.hid hstep
          have hsz : sb.size ≤ 50 := by omega
          have hkn : ¬ ((0 : Int) < (k : Int)) := by omega
          clear hsb hat hrng hc1 hc2 hbel hpre hstep hk0
          go_wp2
          clear hkn
          have hc1 : ¬ (9223372036854775807 < sb.size + (fmtB x).size) := by omega
          have hc2 : ¬ (9223372036854775807 < sb.size + (fmtB x).size + 1) := by omega
          have hc3 : ¬ (9223372036854775807 < sb.size + (fmtB x).size + 1 + (fmtB y).size) := by omega
          have hs0 : Below wr.heap.size wr wr.drew ∧ wr.drew.cell? ⟨b1, off + k * 2, none⟩ = some (.int .i64 x) ∧ wr.drew.cell? ⟨b1, off + k * 2 + 1, none⟩ = some (.int .i64 y) := ⟨(Below.refl _ _).drew, f1, f2⟩
          refine wp_region_held (S := fun w' => Below wr.heap.size wr w' ∧ w'.cell? ⟨b1, off + k * 2, none⟩ = some (.int .i64 x) ∧ w'.cell? ⟨b1, off + k * 2 + 1, none⟩ = some (.int .i64 y)) (by kernel_rfl) ?_
          change wpAnyH _ _ _ _ _ _ _ _ (World.drew _)
          refine takeY 18 (i := 0) (v := ?v0b) rfl rfl (by kernel_rfl) (by kernel_rfl) (by kernel_rfl) (fun _ _ _ h => h) (by kernel_rfl) ?y0b hs0 ?_
          case y0b =>
            intro w' hw'; (try dsimp only at hw'); obtain ⟨e0, e1, e2⟩ := hw'; go_simp; try with_reducible rfl
          simp only [Act.put, List.setIfInBounds_toArray, List.set_cons_zero, List.set_cons_succ]
          refine takeY 19 (i := 1) (v := ?v1b) rfl rfl (by kernel_rfl) (by kernel_rfl) (by kernel_rfl) (fun _ _ _ h => h) (by kernel_rfl) ?y1b hs0 ?_
          case y1b =>
            intro w' hw'; (try dsimp only at hw'); obtain ⟨e0, e1, e2⟩ := hw'; go_simp; try with_reducible rfl
          simp only [Act.put, List.setIfInBounds_toArray, List.set_cons_zero, List.set_cons_succ]
          refine takeY 20 (i := 2) (v := ?v2b) rfl rfl (by kernel_rfl) (by kernel_rfl) (by kernel_rfl) (fun _ _ _ h => h) (by kernel_rfl) ?y2b hs0 ?_
          case y2b =>
            intro w' hw'; (try dsimp only at hw'); obtain ⟨e0, e1, e2⟩ := hw'; go_simp; try with_reducible rfl
          simp only [Act.put, List.setIfInBounds_toArray, List.set_cons_zero, List.set_cons_succ]
          refine takeY 21 (i := 3) (v := ?v3b) rfl rfl (by kernel_rfl) (by kernel_rfl) (by kernel_rfl) (fun _ _ _ h => h) (by kernel_rfl) ?y3b hs0 ?_
          case y3b =>
            intro w' hw'; (try dsimp only at hw'); obtain ⟨e0, e1, e2⟩ := hw'; go_simp; try with_reducible rfl
          simp only [Act.put, List.setIfInBounds_toArray, List.set_cons_zero, List.set_cons_succ]
          refine takeY 22 (i := 4) (v := ?v4b) rfl rfl (by kernel_rfl) (by kernel_rfl) (by kernel_rfl) (fun _ _ _ h => h) (by kernel_rfl) ?y4b hs0 ?_
          case y4b =>
            intro w' hw'; (try dsimp only at hw'); obtain ⟨e0, e1, e2⟩ := hw'; go_simp; try with_reducible rfl
          simp only [Act.put, List.setIfInBounds_toArray, List.set_cons_zero, List.set_cons_succ]
          refine takeY 23 (i := 5) (v := ?v5b) rfl rfl (by kernel_rfl) (by kernel_rfl) (by kernel_rfl) (fun _ _ _ h => h) (by kernel_rfl) ?y5b hs0 ?_
          case y5b =>
            intro w' hw'; (try dsimp only at hw'); obtain ⟨e0, e1, e2⟩ := hw'; go_simp; try with_reducible rfl
          simp only [Act.put, List.setIfInBounds_toArray, List.set_cons_zero, List.set_cons_succ]
          refine takeY 27 (i := 9) (v := ?v9b) rfl rfl (by kernel_rfl) (by kernel_rfl) (by kernel_rfl) (fun _ _ _ h => h) (by kernel_rfl) ?y9b hs0 ?_
          case y9b =>
            intro w' hw'; (try dsimp only at hw'); obtain ⟨e0, e1, e2⟩ := hw'; go_simp; try with_reducible rfl
          simp only [Act.put, List.setIfInBounds_toArray, List.set_cons_zero, List.set_cons_succ]
          refine takeY 28 (i := 10) (v := ?v10b) rfl rfl (by kernel_rfl) (by kernel_rfl) (by kernel_rfl) (fun _ _ _ h => h) (by kernel_rfl) ?y10b hs0 ?_
          case y10b =>
            intro w' hw'; (try dsimp only at hw'); obtain ⟨e0, e1, e2⟩ := hw'; go_simp; try with_reducible rfl
          simp only [Act.put, List.setIfInBounds_toArray, List.set_cons_zero, List.set_cons_succ]
          refine takeY 29 (i := 11) (v := ?v11b) rfl rfl (by kernel_rfl) (by kernel_rfl) (by kernel_rfl) (fun _ _ _ h => h) (by kernel_rfl) ?y11b hs0 ?_
          case y11b =>
            intro w' hw'; (try dsimp only at hw'); obtain ⟨e0, e1, e2⟩ := hw'; go_simp; try with_reducible rfl
          simp only [Act.put, List.setIfInBounds_toArray, List.set_cons_zero, List.set_cons_succ]
          refine takeY 30 (i := 12) (v := ?v12b) rfl rfl (by kernel_rfl) (by kernel_rfl) (by kernel_rfl) (fun _ _ _ h => h) (by kernel_rfl) ?y12b hs0 ?_
          case y12b =>
            intro w' hw'; (try dsimp only at hw'); obtain ⟨e0, e1, e2⟩ := hw'; go_simp; try with_reducible rfl
          simp only [Act.put, List.setIfInBounds_toArray, List.set_cons_zero, List.set_cons_succ]
          refine takeY 31 (i := 13) (v := ?v13b) rfl rfl (by kernel_rfl) (by kernel_rfl) (by kernel_rfl) (fun _ _ _ h => h) (by kernel_rfl) ?y13b hs0 ?_
          case y13b =>
            intro w' hw'; (try dsimp only at hw'); obtain ⟨e0, e1, e2⟩ := hw'; go_simp; try with_reducible rfl
          simp only [Act.put, List.setIfInBounds_toArray, List.set_cons_zero, List.set_cons_succ]
          refine wpAnyH_ready (rs := [6]) (by kernel_rfl) (by simp) ?_
          refine AllReadyH.cons rfl (fun K hK => ?_) AllReadyH.nil
          go_simp; go_at_call 57; refine (sFormat x (by omega) (by omega) _).mono ?_; rintro e w3 ⟨rfl, h3⟩; replace h3 := (Below.refl wr.heap.size wr).drew.trans (h3.mono (Nat.le_refl _))
          refine hK.out _ _ ⟨h3, (h3.cell (p := ⟨b1, off + k * 2, none⟩) hl1).trans f1, (h3.cell (p := ⟨b1, off + k * 2 + 1, none⟩) hl1).trans f2⟩ (fun hS1 => ?_)
          clear hK K
          try simp only [Act.put, List.setIfInBounds_toArray, List.set_cons_zero, List.set_cons_succ]
          refine takeY 25 (i := 7) (v := ?v7b) rfl rfl (by kernel_rfl) (by kernel_rfl) (by kernel_rfl) (fun _ _ _ h => h) (by kernel_rfl) ?y7b hS1 ?_
          case y7b =>
            intro w' hw'; (try dsimp only at hw'); obtain ⟨e0, e1, e2⟩ := hw'; go_simp; try with_reducible rfl
          simp only [Act.put, List.setIfInBounds_toArray, List.set_cons_zero, List.set_cons_succ]
          refine takeY 26 (i := 8) (v := ?v8b) rfl rfl (by kernel_rfl) (by kernel_rfl) (by kernel_rfl) (fun _ _ _ h => h) (by kernel_rfl) ?y8b hS1 ?_
          case y8b =>
            intro w' hw'; (try dsimp only at hw'); obtain ⟨e0, e1, e2⟩ := hw'; go_simp; try with_reducible rfl
          simp only [Act.put, List.setIfInBounds_toArray, List.set_cons_zero, List.set_cons_succ]
          refine wpAnyH_ready (rs := [14]) (by kernel_rfl) (by simp) ?_
          refine AllReadyH.cons rfl (fun K hK => ?_) AllReadyH.nil
          go_simp; go_at_call 57; refine (sFormat y (by omega) (by omega) _).mono ?_; rintro e w4 ⟨rfl, h4⟩; replace h4 := h3.trans (h4.mono h3.size)
          refine hK.out _ _ ⟨h4, (h4.cell (p := ⟨b1, off + k * 2, none⟩) hl1).trans f1, (h4.cell (p := ⟨b1, off + k * 2 + 1, none⟩) hl1).trans f2⟩ (fun hS2 => ?_)
          clear hK K
          try simp only [Act.put, List.setIfInBounds_toArray, List.set_cons_zero, List.set_cons_succ]
          refine takeY 33 (i := 15) (v := ?v15b) rfl rfl (by kernel_rfl) (by kernel_rfl) (by kernel_rfl) (fun _ _ _ h => h) (by kernel_rfl) ?y15b hS2 ?_
          case y15b =>
            intro w' hw'; (try dsimp only at hw'); obtain ⟨e0, e1, e2⟩ := hw'; go_simp; try with_reducible rfl
          simp only [Act.put, List.setIfInBounds_toArray, List.set_cons_zero, List.set_cons_succ]
          refine takeY 3 (i := 16) (v := ?v16b) rfl rfl (by kernel_rfl) (by kernel_rfl) (by kernel_rfl) (fun _ _ _ h => h) (by kernel_rfl) ?y16b hS2 ?_
          case y16b =>
            intro w' hw'; (try dsimp only at hw'); obtain ⟨e0, e1, e2⟩ := hw'; go_simp; try with_reducible rfl
          simp only [Act.put, List.setIfInBounds_toArray, List.set_cons_zero, List.set_cons_succ]
          refine wpAnyH_done (by kernel_rfl) ?_ _
          have HB' := Lib.hid (HB.out.trans (h4.mono HB.out.size))
          clear hc1 hc2 hc3 hs0 hS1 hS2 h3 h4 f1 f2 HB
          go_wp2
          go_roundw
          case rel => exact ⟨k + 1, by omega, by go_num, by rw [← HStep.out], HB'.out⟩
          case measure => simp [intOf]; omega
        · have HStep := Lib.hid (preP_step (by omega) hat)
          have hkp : (0 : Int) < (k : Int) := by omega
          have hc0 : ¬ (9223372036854775807 < (preP ps k).size + 1) := by omega
          obtain ⟨sb, hsb⟩ : ∃ sb : ByteArray, sb = preP ps k ++ ⟨#[44]⟩ := ⟨_, rfl⟩
          have hsz : sb.size ≤ 50 := by
            rw [hsb, ByteArray.size_append]
            have : (⟨#[44]⟩ : ByteArray).size = 1 := rfl
            omega
          rw [← hsb] at HStep
          clear hat hrng hc1 hc2 hbel hpre
          go_wp2
          rw [← hsb]
          clear hsb hc0
          have hc1 : ¬ (9223372036854775807 < sb.size + (fmtB x).size) := by omega
          have hc2 : ¬ (9223372036854775807 < sb.size + (fmtB x).size + 1) := by omega
          have hc3 : ¬ (9223372036854775807 < sb.size + (fmtB x).size + 1 + (fmtB y).size) := by omega
          have hs0 : Below wr.heap.size wr wr.drew ∧ wr.drew.cell? ⟨b1, off + k * 2, none⟩ = some (.int .i64 x) ∧ wr.drew.cell? ⟨b1, off + k * 2 + 1, none⟩ = some (.int .i64 y) := ⟨(Below.refl _ _).drew, f1, f2⟩
          refine wp_region_held (S := fun w' => Below wr.heap.size wr w' ∧ w'.cell? ⟨b1, off + k * 2, none⟩ = some (.int .i64 x) ∧ w'.cell? ⟨b1, off + k * 2 + 1, none⟩ = some (.int .i64 y)) (by kernel_rfl) ?_
          change wpAnyH _ _ _ _ _ _ _ _ (World.drew _)
          refine takeY 18 (i := 0) (v := ?v0c) rfl rfl (by kernel_rfl) (by kernel_rfl) (by kernel_rfl) (fun _ _ _ h => h) (by kernel_rfl) ?y0c hs0 ?_
          case y0c =>
            intro w' hw'; (try dsimp only at hw'); obtain ⟨e0, e1, e2⟩ := hw'; go_simp; try with_reducible rfl
          simp only [Act.put, List.setIfInBounds_toArray, List.set_cons_zero, List.set_cons_succ]
          refine takeY 19 (i := 1) (v := ?v1c) rfl rfl (by kernel_rfl) (by kernel_rfl) (by kernel_rfl) (fun _ _ _ h => h) (by kernel_rfl) ?y1c hs0 ?_
          case y1c =>
            intro w' hw'; (try dsimp only at hw'); obtain ⟨e0, e1, e2⟩ := hw'; go_simp; try with_reducible rfl
          simp only [Act.put, List.setIfInBounds_toArray, List.set_cons_zero, List.set_cons_succ]
          refine takeY 20 (i := 2) (v := ?v2c) rfl rfl (by kernel_rfl) (by kernel_rfl) (by kernel_rfl) (fun _ _ _ h => h) (by kernel_rfl) ?y2c hs0 ?_
          case y2c =>
            intro w' hw'; (try dsimp only at hw'); obtain ⟨e0, e1, e2⟩ := hw'; go_simp; try with_reducible rfl
          simp only [Act.put, List.setIfInBounds_toArray, List.set_cons_zero, List.set_cons_succ]
          refine takeY 21 (i := 3) (v := ?v3c) rfl rfl (by kernel_rfl) (by kernel_rfl) (by kernel_rfl) (fun _ _ _ h => h) (by kernel_rfl) ?y3c hs0 ?_
          case y3c =>
            intro w' hw'; (try dsimp only at hw'); obtain ⟨e0, e1, e2⟩ := hw'; go_simp; try with_reducible rfl
          simp only [Act.put, List.setIfInBounds_toArray, List.set_cons_zero, List.set_cons_succ]
          refine takeY 22 (i := 4) (v := ?v4c) rfl rfl (by kernel_rfl) (by kernel_rfl) (by kernel_rfl) (fun _ _ _ h => h) (by kernel_rfl) ?y4c hs0 ?_
          case y4c =>
            intro w' hw'; (try dsimp only at hw'); obtain ⟨e0, e1, e2⟩ := hw'; go_simp; try with_reducible rfl
          simp only [Act.put, List.setIfInBounds_toArray, List.set_cons_zero, List.set_cons_succ]
          refine takeY 23 (i := 5) (v := ?v5c) rfl rfl (by kernel_rfl) (by kernel_rfl) (by kernel_rfl) (fun _ _ _ h => h) (by kernel_rfl) ?y5c hs0 ?_
          case y5c =>
            intro w' hw'; (try dsimp only at hw'); obtain ⟨e0, e1, e2⟩ := hw'; go_simp; try with_reducible rfl
          simp only [Act.put, List.setIfInBounds_toArray, List.set_cons_zero, List.set_cons_succ]
          refine takeY 27 (i := 9) (v := ?v9c) rfl rfl (by kernel_rfl) (by kernel_rfl) (by kernel_rfl) (fun _ _ _ h => h) (by kernel_rfl) ?y9c hs0 ?_
          case y9c =>
            intro w' hw'; (try dsimp only at hw'); obtain ⟨e0, e1, e2⟩ := hw'; go_simp; try with_reducible rfl
          simp only [Act.put, List.setIfInBounds_toArray, List.set_cons_zero, List.set_cons_succ]
          refine takeY 28 (i := 10) (v := ?v10c) rfl rfl (by kernel_rfl) (by kernel_rfl) (by kernel_rfl) (fun _ _ _ h => h) (by kernel_rfl) ?y10c hs0 ?_
          case y10c =>
            intro w' hw'; (try dsimp only at hw'); obtain ⟨e0, e1, e2⟩ := hw'; go_simp; try with_reducible rfl
          simp only [Act.put, List.setIfInBounds_toArray, List.set_cons_zero, List.set_cons_succ]
          refine takeY 29 (i := 11) (v := ?v11c) rfl rfl (by kernel_rfl) (by kernel_rfl) (by kernel_rfl) (fun _ _ _ h => h) (by kernel_rfl) ?y11c hs0 ?_
          case y11c =>
            intro w' hw'; (try dsimp only at hw'); obtain ⟨e0, e1, e2⟩ := hw'; go_simp; try with_reducible rfl
          simp only [Act.put, List.setIfInBounds_toArray, List.set_cons_zero, List.set_cons_succ]
          refine takeY 30 (i := 12) (v := ?v12c) rfl rfl (by kernel_rfl) (by kernel_rfl) (by kernel_rfl) (fun _ _ _ h => h) (by kernel_rfl) ?y12c hs0 ?_
          case y12c =>
            intro w' hw'; (try dsimp only at hw'); obtain ⟨e0, e1, e2⟩ := hw'; go_simp; try with_reducible rfl
          simp only [Act.put, List.setIfInBounds_toArray, List.set_cons_zero, List.set_cons_succ]
          refine takeY 31 (i := 13) (v := ?v13c) rfl rfl (by kernel_rfl) (by kernel_rfl) (by kernel_rfl) (fun _ _ _ h => h) (by kernel_rfl) ?y13c hs0 ?_
          case y13c =>
            intro w' hw'; (try dsimp only at hw'); obtain ⟨e0, e1, e2⟩ := hw'; go_simp; try with_reducible rfl
          simp only [Act.put, List.setIfInBounds_toArray, List.set_cons_zero, List.set_cons_succ]
          refine wpAnyH_ready (rs := [6]) (by kernel_rfl) (by simp) ?_
          refine AllReadyH.cons rfl (fun K hK => ?_) AllReadyH.nil
          go_simp; go_at_call 57; refine (sFormat x (by omega) (by omega) _).mono ?_; rintro e w3 ⟨rfl, h3⟩; replace h3 := (Below.refl wr.heap.size wr).drew.trans (h3.mono (Nat.le_refl _))
          refine hK.out _ _ ⟨h3, (h3.cell (p := ⟨b1, off + k * 2, none⟩) hl1).trans f1, (h3.cell (p := ⟨b1, off + k * 2 + 1, none⟩) hl1).trans f2⟩ (fun hS1 => ?_)
          clear hK K
          try simp only [Act.put, List.setIfInBounds_toArray, List.set_cons_zero, List.set_cons_succ]
          refine takeY 25 (i := 7) (v := ?v7c) rfl rfl (by kernel_rfl) (by kernel_rfl) (by kernel_rfl) (fun _ _ _ h => h) (by kernel_rfl) ?y7c hS1 ?_
          case y7c =>
            intro w' hw'; (try dsimp only at hw'); obtain ⟨e0, e1, e2⟩ := hw'; go_simp; try with_reducible rfl
          simp only [Act.put, List.setIfInBounds_toArray, List.set_cons_zero, List.set_cons_succ]
          refine takeY 26 (i := 8) (v := ?v8c) rfl rfl (by kernel_rfl) (by kernel_rfl) (by kernel_rfl) (fun _ _ _ h => h) (by kernel_rfl) ?y8c hS1 ?_
          case y8c =>
            intro w' hw'; (try dsimp only at hw'); obtain ⟨e0, e1, e2⟩ := hw'; go_simp; try with_reducible rfl
          simp only [Act.put, List.setIfInBounds_toArray, List.set_cons_zero, List.set_cons_succ]
          refine wpAnyH_ready (rs := [14]) (by kernel_rfl) (by simp) ?_
          refine AllReadyH.cons rfl (fun K hK => ?_) AllReadyH.nil
          go_simp; go_at_call 57; refine (sFormat y (by omega) (by omega) _).mono ?_; rintro e w4 ⟨rfl, h4⟩; replace h4 := h3.trans (h4.mono h3.size)
          refine hK.out _ _ ⟨h4, (h4.cell (p := ⟨b1, off + k * 2, none⟩) hl1).trans f1, (h4.cell (p := ⟨b1, off + k * 2 + 1, none⟩) hl1).trans f2⟩ (fun hS2 => ?_)
          clear hK K
          try simp only [Act.put, List.setIfInBounds_toArray, List.set_cons_zero, List.set_cons_succ]
          refine takeY 33 (i := 15) (v := ?v15c) rfl rfl (by kernel_rfl) (by kernel_rfl) (by kernel_rfl) (fun _ _ _ h => h) (by kernel_rfl) ?y15c hS2 ?_
          case y15c =>
            intro w' hw'; (try dsimp only at hw'); obtain ⟨e0, e1, e2⟩ := hw'; go_simp; try with_reducible rfl
          simp only [Act.put, List.setIfInBounds_toArray, List.set_cons_zero, List.set_cons_succ]
          refine takeY 3 (i := 16) (v := ?v16c) rfl rfl (by kernel_rfl) (by kernel_rfl) (by kernel_rfl) (fun _ _ _ h => h) (by kernel_rfl) ?y16c hS2 ?_
          case y16c =>
            intro w' hw'; (try dsimp only at hw'); obtain ⟨e0, e1, e2⟩ := hw'; go_simp; try with_reducible rfl
          simp only [Act.put, List.setIfInBounds_toArray, List.set_cons_zero, List.set_cons_succ]
          refine wpAnyH_done (by kernel_rfl) ?_ _
          have HB' := Lib.hid (HB.out.trans (h4.mono HB.out.size))
          clear hc1 hc2 hc3 hs0 hS1 hS2 h3 h4 f1 f2 HB
          go_wp2
          go_roundw
          case rel => exact ⟨k + 1, by omega, by go_num, by rw [← HStep.out], HB'.out⟩
          case measure => simp [intOf]; omega
      · obtain rfl : k = n := by omega
        clear hbel hpre
        by_cases h0 : k = 0
        · have hps : Hid (ps = []) := Lib.hid (List.eq_nil_of_length_eq_zero (HX.out.1.trans h0))
          subst h0
          rw [preP_zero]
          go_wp2
          go_ret
          exact ⟨by rw [hps.out]; rfl, HB.out⟩
        · have hps : ps ≠ [] := fun e => h0 (by rw [← HX.out.1, e]; rfl)
          obtain ⟨h1, h2, h3⟩ := preP_all HX.out.1 hps
          rw [h1]
          obtain ⟨sb, hsb⟩ : ∃ sb : ByteArray, sb = fmtP ps true := ⟨_, rfl⟩
          rw [← hsb] at h2 h3 ⊢
          have HSb := Lib.hid hsb
          clear hsb h1 hps
          go_wp2
          go_ret
          exact ⟨by rw [← HSb.out]; rfl, HB.out⟩
end Go.Proofs.YtadjoiahllekdaaGreatDoor.num
namespace Go.Proofs.YtadjoiahllekdaaGreatDoor.num
set_option maxRecDepth 20000
open Go.RowKit
set_option linter.unusedVariables false

theorem fmt_R' {n : Int} (h : InR n) : (fmtB n).size ≤ 2 := fmt_small n (inR2 h).1 (inR2 h).2
set_option maxHeartbeats 1600000 in
theorem sInts (w : World) (B : Nat) (A : Option Addr) (n c : Nat) (l : List Int) (hi : Ints w B A n l) (hB : B ≤ w.heap.size) (hn : n ≤ 1048576) (h : ∀ v ∈ l, InR v) :
    Calls Tryz.prog 58 #[.slice A n c] w fun e w' => e = .returned (.string ⟨(intsT l).toArray⟩) ∧ Below w.heap.size w w' := by
  have HX := Lib.hid hi
  have HR := Lib.hid h
  clear hi h
  go_enter Tryz.func58, Tryz.ntmps58
  go_wp2
  go_loopw [3, 4] (fun s i wr => ∃ k : Nat, k ≤ n ∧ i = .int .i64 k ∧ s = .string (preI l k) ∧ Below w.heap.size w wr) (fun _ i _ => n - (intOf i).toNat)
  case atStart => exact ⟨0, Nat.zero_le _, rfl, rfl, Below.refl _ _⟩
  case round =>
    obtain ⟨k, hk, rfl, rfl, hbel⟩ := hrel
    have HB := Lib.hid hbel
    have hpre := preI_small HR.out k
    by_cases hlt : k < n
    · obtain ⟨b1, off, x, rfl, hb1, hat, hc1⟩ := HX.out.at k hlt
      have f1 := (hbel.cell (p := ⟨b1, off + k, none⟩) (by exact Nat.lt_of_lt_of_le hb1 hB)).trans hc1
      have hrng := HR.out x (List.mem_of_getElem? hat)
      have hfx := fmt_R' hrng
      obtain ⟨hx0, hx1⟩ := inR2 hrng
      have hlt' : (k : Int) < (n : Int) := by omega
      by_cases hk0 : k = 0
      · have hstep : preI l k ++ fmtB x = preI l (k + 1) := by
          subst hk0
          rw [preI_zero]
          exact preI_one hat
        obtain ⟨sb, hsb⟩ : ∃ sb : ByteArray, sb = preI l k := ⟨_, rfl⟩
        rw [← hsb] at hstep hpre ⊢
        have HStep := Lib.hid hstep
        have hsz : sb.size ≤ 3145728 := by omega
        have hkn : ¬ ((0 : Int) < (k : Int)) := by omega
        clear hsb hat hrng hc1 hbel hpre hstep hk0
        go_wp2_with fail
        refine (sFormat x (by omega) (by omega) _).mono ?_
        rintro e w1 ⟨rfl, hb⟩
        have HB1 := Lib.hid (HB.out.trans (hb.mono HB.out.size))
        have hc1 : ¬ (9223372036854775807 < sb.size + (fmtB x).size) := by omega
        clear hb f1 hkn
        go_wp2
        go_roundw
        case rel => exact ⟨k + 1, by omega, by go_num, by rw [HStep.out], HB1.out⟩
        case measure => simp [intOf]; omega
      · have hstep : preI l k ++ ⟨#[44]⟩ ++ fmtB x = preI l (k + 1) := preI_step (by omega) hat
        obtain ⟨sb, hsb⟩ : ∃ sb : ByteArray, sb = preI l k := ⟨_, rfl⟩
        rw [← hsb] at hstep hpre ⊢
        have HStep := Lib.hid hstep
        have hsz : sb.size ≤ 3145728 := by omega
        have hkn : (0 : Int) < (k : Int) := by omega
        have hc0 : ¬ (9223372036854775807 < sb.size + 1) := by omega
        have hc1 : ¬ (9223372036854775807 < sb.size + 1 + (fmtB x).size) := by omega
        clear hsb hat hrng hbel hpre hstep hk0
        go_wp2_with fail
        refine (sFormat x (by omega) (by omega) _).mono ?_
        rintro e w1 ⟨rfl, hb⟩
        have HB1 := Lib.hid (HB.out.trans (hb.mono HB.out.size))
        clear hb f1 hkn
        go_wp2
        go_roundw
        case rel => exact ⟨k + 1, by omega, by go_num, by rw [HStep.out], HB1.out⟩
        case measure => simp [intOf]; omega
    · obtain rfl : k = n := by omega
      clear hbel hpre
      go_wp2
      go_ret
      exact ⟨by unfold preI; rw [ptake_all HX.out.1]; rfl, HB.out⟩

def wordI (l : List Int) (j : Nat) : ByteArray := fmtB (l.getD j 0)
theorem wordI_at {l : List Int} {k : Nat} {x : Int} (h : l[k]? = some x) : wordI l k = fmtB x := by
  unfold wordI
  rw [List.getD_eq_getElem?_getD, h]; rfl
set_option maxHeartbeats 1600000 in
theorem iInts (w : World) (B : Nat) (A : Option Addr) (n cc : Nat) (l : List Int) (hi : Ints w B A n l) (hB : B ≤ w.heap.size) (hn : n ≤ 1048576) (h : ∀ v ∈ l, InR v) (hpow : Pow w) :
    Calls Tryz.prog 47 #[.slice A n cc, .string ⟨#[44]⟩, .func (.func 46) #[] #[]] w fun e w' => e = .returned (.string ⟨(intsT l).toArray⟩) ∧ Below w.heap.size w w' := by
  have hmk := run_make_row' (P := Tryz.prog) 86 9 (.string ⟨#[]⟩) 16 Tryz.underlying86 info_string rfl .i64 .i64 n (by omega) (by omega)
  have HX := Lib.hid hi
  have HP := Lib.hid hpow
  have HR0 := Lib.hid h
  clear hi hpow h
  go_enter Tryz.func47, Tryz.ntmps47
  go_wp2
  clear hmk
  go_loopw [15] (fun i wr => ∃ k : Nat, k ≤ n ∧ i = .int .i64 k ∧ wr.rowIs w.heap.size 9 n (fun j => if j < k then .string (wordI l j) else .string ⟨#[]⟩) ∧ Below w.heap.size w wr) (fun i _ => n - (intOf i).toNat)
  case atStart =>
    exact ⟨0, Nat.zero_le _, rfl, by simpa using World.rowIs_made w (.string ⟨#[]⟩) n 9, (Below.refl _ _).alloc (Nat.le_refl _) _⟩
  case round =>
    obtain ⟨k, hk, rfl, hrow, hbel⟩ := hrel
    have HR := Lib.hid hrow
    have HB := Lib.hid hbel
    by_cases hlt : k < n
    · obtain ⟨b1, off, x, rfl, hb1, hat, hc1⟩ := HX.out.at k hlt
      have f1 := (hbel.cell (p := ⟨b1, off + k, none⟩) (by exact Nat.lt_of_lt_of_le hb1 hB)).trans hc1
      have HT := Lib.hid hat
      have hrng := HR0.out x (List.mem_of_getElem? hat)
      obtain ⟨hx0, hx1⟩ := inR2 hrng
      have hlt' : (k : Int) < (n : Int) := by omega
      clear hrow hbel hc1 hat hrng
      go_wp2_with fail
      refine (iFormat x (by omega) (by omega) _ (HP.out.below HB.out)).mono ?_
      rintro e w1 ⟨rfl, hb⟩
      have HB2 := Lib.hid hb
      have hrow1 := rowIs_below HR.out HB2.out (World.rowIs.lt HR.out)
      have g1 : w1.cell? ⟨w.heap.size, k, none⟩ = some (.string ⟨#[]⟩) := by rw [World.rowIs.cell hrow1 hlt, if_neg (by omega)]
      have g2 := World.rowIs.frozen hrow1 k
      have HR1 := Lib.hid hrow1
      have HB1 := Lib.hid (HB.out.trans (hb.mono HB.out.size))
      clear hb hrow1 f1
      go_wp2
      go_roundw
      case rel =>
        refine ⟨k + 1, by omega, by go_num, (World.rowIs.set HR1.out k (.string (fmtB x))).congr (fun j _ => ?_), HB1.out.setCell (Nat.le_refl _) _⟩
        by_cases h1 : j = k
        · subst h1; rw [if_pos rfl, if_pos (by omega), wordI_at HT.out]
        · by_cases h2 : j < k
          · rw [if_neg h1, if_pos h2, if_pos (by omega)]
          · rw [if_neg h1, if_neg h2, if_neg (by omega)]
      case measure => simp [intOf]; omega
    · obtain rfl : k = n := by omega
      obtain ⟨xs, hxs⟩ : ∃ xs : List ByteArray, xs = l.map fmtB := ⟨_, rfl⟩
      have hxl : xs.length = k := by rw [hxs, List.length_map]; exact HX.out.1
      have hmap : xs.map (·.data.toList) = l.map Lib.itoa := by rw [hxs, List.map_map]; rfl
      have hcells : ∀ (j : Nat) x, xs[j]? = some x → wr.cell? ⟨w.heap.size, 0 + j, none⟩ = some (.string x) := by
        intro j x hx
        have hj : j < k := by
          rcases Nat.lt_or_ge j xs.length with h' | h'
          · omega
          · rw [List.getElem?_eq_none h'] at hx; cases hx
        rw [hxs, List.getElem?_map] at hx
        obtain ⟨p, hp, rfl⟩ := Option.map_eq_some_iff.1 hx
        rw [Nat.zero_add, World.rowIs.cell hrow hj, if_pos hj, wordI_at hp]
      have hsz : (Lib.join (xs.map (·.data.toList)) (⟨#[44]⟩ : ByteArray).data.toList).length ≤ 140737488355328 := by
        rw [hmap]
        have := intsT_len HR0.out
        rw [HX.out.1] at this
        show (intsT l).length ≤ _
        omega
      have hJ : Calls Tryz.prog 64 #[.slice (some ⟨w.heap.size, 0, none⟩) k k, .string ⟨#[44]⟩] wr fun e w' => e = .returned (.string ⟨(intsT l).toArray⟩) ∧ Below wr.heap.size wr w' := by
        have h0 := Tryz.strings_Join w.heap.size 0 k xs ⟨#[44]⟩ wr hcells (World.rowIs.lt hrow) (by omega) (by omega) hsz
        rw [hxl, hmap] at h0
        exact h0
      have HJ := Lib.hid hJ
      clear hrow hbel hcells hJ hsz hmap hxl hxs
      go_wp2_with fail
      refine HJ.out.mono ?_
      rintro e w1 ⟨rfl, hb⟩
      have HB1 := Lib.hid (HB.out.trans (hb.mono HB.out.size))
      clear hb
      go_wp2
      go_ret
      exact ⟨rfl, HB1.out⟩
end Go.Proofs.YtadjoiahllekdaaGreatDoor.num
namespace Go.Proofs.YtadjoiahllekdaaGreatDoor.num
set_option maxRecDepth 20000
open Go.RowKit
set_option linter.unusedVariables false
set_option linter.unusedSimpArgs false

theorem fmtW_ext {d : WD} {b : ByteArray} (h : b.data.toList = wishT d) : b = fmtW d true := by
  apply bytes_ext
  rw [h]
  simp [fmtW]
theorem wishT0 {f v : Int} {ls : List Int} {ps : List (Int × Int)} : wishT ⟨0, f, v, ls, ps⟩ = [108, 111, 119] ++ 32 :: 102 :: Lib.itoa f := by
  show [108, 111, 119] ++ 32 :: 102 :: (Lib.itoa f ++ []) = _
  rw [List.append_nil]
theorem wishT1 {f v : Int} {ls : List Int} {ps : List (Int × Int)} : wishT ⟨1, f, v, ls, ps⟩ = [104, 105, 103, 104] ++ 32 :: 102 :: Lib.itoa f := by
  show [104, 105, 103, 104] ++ 32 :: 102 :: (Lib.itoa f ++ []) = _
  rw [List.append_nil]
theorem wishT2 {f v : Int} {ls : List Int} {ps : List (Int × Int)} : wishT ⟨2, f, v, ls, ps⟩ = [110, 101, 97, 114] ++ 32 :: 102 :: (Lib.itoa f ++ 32 :: Lib.itoa v) := rfl
theorem wishT3 {f v : Int} {ls : List Int} {ps : List (Int × Int)} : wishT ⟨3, f, v, ls, ps⟩ = [97, 109, 111, 110, 103] ++ 32 :: 102 :: (Lib.itoa f ++ 32 :: intsT ls) := rfl
theorem wishT4 {f v : Int} {ls : List Int} {ps : List (Int × Int)} : wishT ⟨4, f, v, ls, ps⟩ = [111, 114, 100, 101, 114] ++ 32 :: 102 :: (Lib.itoa f ++ 32 :: pairsT ps) := rfl
theorem pairsT_len {ps : List (Int × Int)} (h : OkP ps) : (pairsT ps).length ≤ 60 := by
  unfold pairsT
  split
  · decide
  · have := join_le (m := 5) 44 (ps.map pairT) fun x hx => by
      obtain ⟨p, hp, rfl⟩ := List.mem_map.1 hx
      exact pairT_len (h.1.rng p hp)
    rw [List.length_map] at this
    have := h.2
    omega
theorem IsW.asc {d : WD} (h : IsW d) (hk : d.kind = 3) : Asc d.ls := by have := h.l; rwa [if_pos hk] at this
theorem IsW.okp {d : WD} (h : IsW d) (hk : d.kind = 4) : OkP d.ps := by have := h.p; rwa [if_pos hk] at this
set_option maxRecDepth 20000 in
set_option maxHeartbeats 1600000 in
theorem sFmtW (w : World) (B : Nat) (t : Wi) (hi : WiIn w B t) (hB : B ≤ w.heap.size) (hn : t.Short) (q : Bool) (hq : q = true ↔ IsW t.dat) :
    Calls Tryz.prog 22 #[t.val] w fun e w' => e = .returned (.string (fmtW t.dat q)) ∧ Below w.heap.size w w' := by
  have HI := Lib.hid hi
  have HQ := Lib.hid hq
  have HB1 : Hid (∀ o : Obj, Below B w (w.alloc o)) := Lib.hid fun o => (Below.refl B w).alloc hB _
  have HW1 : Hid (∀ o : Obj, Below w.heap.size w (w.alloc o)) := Lib.hid fun o => (Below.refl _ w).alloc (Nat.le_refl _) _
  have HS : Hid (∀ w1 : World, WiIn w1 B t → B ≤ w1.heap.size → Calls Tryz.prog 23 #[t.val] w1 fun e w' => e = .returned (.bool q) ∧ Below w1.heap.size w1 w') := Lib.hid fun w1 h1 h2 => sIsWish w1 B t h1 h2 hn q hq
  have HN := Lib.hid hn
  clear hi hq hn
  obtain ⟨k, f, v, LA, Ln, Lc, ls, PA, Pn, Pc, ps⟩ := t
  unfold Wi.val at HS ⊢
  simp only [Wi.dat] at HQ ⊢
  have CALL := HS
  cases q
  · go_enter Tryz.func22, Tryz.ntmps22
    go_wp2_with fail
    refine (HS.out _ (HI.out.below (HB1.out _)) (by simp; omega)).mono ?_
    rintro e w1 ⟨rfl, hb1⟩
    have HBB := Lib.hid ((HW1.out _).trans (hb1.mono (by simp)))
    clear hb1
    go_wp2
    go_ret
    exact ⟨rfl, HBB.out⟩
  · have HW := Lib.hid (HQ.out.1 rfl)
    have hk := HW.out.k
    have hf := HW.out.f
    have hv : k = 2 → InR v := fun h => HW.out.val2 h
    have ha : k = 3 → Asc ls := fun h => HW.out.asc h
    have ho : k = 4 → OkP ps := fun h => HW.out.okp h
    have HP : Hid (Pairs w B PA Pn ps) := Lib.hid HI.out.p
    have HL : Hid (Ints w B LA Ln ls) := Lib.hid HI.out.l
    have HNN : Hid (Ln ≤ 1048576 ∧ Pn ≤ 1048576) := Lib.hid HN.out
    have hff : (fmtB f).size ≤ 2 := fmt_R' ⟨hf.1, by have := hf.2; dsimp only at this; omega⟩
    have hf1 : -9223372036854775808 ≤ f := by have := hf.1; dsimp only at this; omega
    have hf2 : f ≤ 9223372036854775807 := by have := hf.2; dsimp only at this; omega
    dsimp only at hk
    clear hf HQ CALL HN
    rcases (show k = 0 ∨ k = 1 ∨ k = 2 ∨ k = 3 ∨ k = 4 by omega) with rfl | rfl | rfl | rfl | rfl
    · clear hk hv ha ho
      go_enter Tryz.func22, Tryz.ntmps22
      go_wp2_with fail
      refine (HS.out _ (HI.out.below (HB1.out _)) (by simp; omega)).mono ?_
      rintro e w1 ⟨rfl, hb1⟩
      obtain ⟨c0, c1, c2, c3, c4, hg⟩ := box5 hb1
      have HBB := Lib.hid (And.intro ((HW1.out _).trans (hb1.mono (by simp))) ((HB1.out _).trans (hb1.mono (by simp; omega))))
      clear hb1
      go_wp2_with fail
      refine (sFormat f hf1 hf2 _).mono ?_
      rintro e w2 ⟨rfl, hb2⟩
      have d0 := (hb2.cell (p := ⟨w.heap.size, 0, none⟩) hg).trans c0
      have d2 := (hb2.cell (p := ⟨w.heap.size, 2, none⟩) hg).trans c2
      have d3 := (hb2.cell (p := ⟨w.heap.size, 3, none⟩) hg).trans c3
      have d4 := (hb2.cell (p := ⟨w.heap.size, 4, none⟩) hg).trans c4
      have HB2 := Lib.hid (And.intro (HBB.out.1.trans (hb2.mono HBB.out.1.size)) (HBB.out.2.trans (hb2.mono (Nat.le_trans hB HBB.out.1.size))))
      clear hb2 c0 c1 c2 c3 c4
      go_wp2
      go_ret
      refine ⟨congrArg (fun x => Ending.returned (.string x)) (fmtW_ext ?_), HB2.out.1⟩
      rw [wishT0]
      simp [fmtB, ByteArray.data_append]
    · clear hk hv ha ho
      go_enter Tryz.func22, Tryz.ntmps22
      go_wp2_with fail
      refine (HS.out _ (HI.out.below (HB1.out _)) (by simp; omega)).mono ?_
      rintro e w1 ⟨rfl, hb1⟩
      obtain ⟨c0, c1, c2, c3, c4, hg⟩ := box5 hb1
      have HBB := Lib.hid (And.intro ((HW1.out _).trans (hb1.mono (by simp))) ((HB1.out _).trans (hb1.mono (by simp; omega))))
      clear hb1
      go_wp2_with fail
      refine (sFormat f hf1 hf2 _).mono ?_
      rintro e w2 ⟨rfl, hb2⟩
      have d0 := (hb2.cell (p := ⟨w.heap.size, 0, none⟩) hg).trans c0
      have d2 := (hb2.cell (p := ⟨w.heap.size, 2, none⟩) hg).trans c2
      have d3 := (hb2.cell (p := ⟨w.heap.size, 3, none⟩) hg).trans c3
      have d4 := (hb2.cell (p := ⟨w.heap.size, 4, none⟩) hg).trans c4
      have HB2 := Lib.hid (And.intro (HBB.out.1.trans (hb2.mono HBB.out.1.size)) (HBB.out.2.trans (hb2.mono (Nat.le_trans hB HBB.out.1.size))))
      clear hb2 c0 c1 c2 c3 c4
      go_wp2
      go_ret
      refine ⟨congrArg (fun x => Ending.returned (.string x)) (fmtW_ext ?_), HB2.out.1⟩
      rw [wishT1]
      simp [fmtB, ByteArray.data_append]
    · obtain ⟨v0, v9⟩ := hv rfl
      clear hk hv ha ho
      have hfv : (fmtB v).size ≤ 2 := fmt_R' ⟨v0, v9⟩
      go_enter Tryz.func22, Tryz.ntmps22
      go_wp2_with fail
      refine (HS.out _ (HI.out.below (HB1.out _)) (by simp; omega)).mono ?_
      rintro e w1 ⟨rfl, hb1⟩
      obtain ⟨c0, c1, c2, c3, c4, hg⟩ := box5 hb1
      have HBB := Lib.hid (And.intro ((HW1.out _).trans (hb1.mono (by simp))) ((HB1.out _).trans (hb1.mono (by simp; omega))))
      clear hb1
      go_wp2_with fail
      refine (sFormat f hf1 hf2 _).mono ?_
      rintro e w2 ⟨rfl, hb2⟩
      have d0 := (hb2.cell (p := ⟨w.heap.size, 0, none⟩) hg).trans c0
      have d2 := (hb2.cell (p := ⟨w.heap.size, 2, none⟩) hg).trans c2
      have d3 := (hb2.cell (p := ⟨w.heap.size, 3, none⟩) hg).trans c3
      have d4 := (hb2.cell (p := ⟨w.heap.size, 4, none⟩) hg).trans c4
      have HB2 := Lib.hid (And.intro (HBB.out.1.trans (hb2.mono HBB.out.1.size)) (HBB.out.2.trans (hb2.mono (Nat.le_trans hB HBB.out.1.size))))
      clear hb2 c0 c1 c2 c3 c4
      go_wp2_with fail
      refine (sFormat v (by omega) (by omega) _).mono ?_
      rintro e w3 ⟨rfl, hb3⟩
      have HB3 := Lib.hid (HB2.out.1.trans (hb3.mono HB2.out.1.size))
      clear hb3 d0 d2 d3 d4
      go_wp2
      go_ret
      refine ⟨congrArg (fun x => Ending.returned (.string x)) (fmtW_ext ?_), HB3.out⟩
      rw [wishT2]
      simp [fmtB, fmtP, ByteArray.data_append]
    · have hasc := ha rfl
      have HA := Lib.hid hasc.2.1
      have hln := HNN.out.1
      have hlen := HL.out.1
      have hT := intsT_len HA.out
      clear hk hv ha ho hasc
      go_enter Tryz.func22, Tryz.ntmps22
      go_wp2_with fail
      refine (HS.out _ (HI.out.below (HB1.out _)) (by simp; omega)).mono ?_
      rintro e w1 ⟨rfl, hb1⟩
      obtain ⟨c0, c1, c2, c3, c4, hg⟩ := box5 hb1
      have HBB := Lib.hid (And.intro ((HW1.out _).trans (hb1.mono (by simp))) ((HB1.out _).trans (hb1.mono (by simp; omega))))
      clear hb1
      go_wp2_with fail
      refine (sFormat f hf1 hf2 _).mono ?_
      rintro e w2 ⟨rfl, hb2⟩
      have d0 := (hb2.cell (p := ⟨w.heap.size, 0, none⟩) hg).trans c0
      have d2 := (hb2.cell (p := ⟨w.heap.size, 2, none⟩) hg).trans c2
      have d3 := (hb2.cell (p := ⟨w.heap.size, 3, none⟩) hg).trans c3
      have d4 := (hb2.cell (p := ⟨w.heap.size, 4, none⟩) hg).trans c4
      have HB2 := Lib.hid (And.intro (HBB.out.1.trans (hb2.mono HBB.out.1.size)) (HBB.out.2.trans (hb2.mono (Nat.le_trans hB HBB.out.1.size))))
      clear hb2 c0 c1 c2 c3 c4
      go_wp2_with fail
      refine (sInts _ B LA Ln Lc ls (HL.out.below HB2.out.2) (Nat.le_trans hB HB2.out.1.size) HNN.out.1 HA.out).mono ?_
      rintro e w3 ⟨rfl, hb3⟩
      have HB3 := Lib.hid (HB2.out.1.trans (hb3.mono HB2.out.1.size))
      clear hb3 d0 d2 d3 d4
      have hsz : (⟨(intsT ls).toArray⟩ : ByteArray).size ≤ 3145728 := by
        show (intsT ls).toArray.size ≤ _
        rw [List.size_toArray]
        omega
      go_wp2
      go_ret
      refine ⟨congrArg (fun x => Ending.returned (.string x)) (fmtW_ext ?_), HB3.out⟩
      rw [wishT3]
      simp [fmtB, fmtP, ByteArray.data_append]
    · have hok := ho rfl
      have HOk := Lib.hid hok
      have hT := pairsT_len hok
      clear hk hv ha ho hok
      go_enter Tryz.func22, Tryz.ntmps22
      go_wp2_with fail
      refine (HS.out _ (HI.out.below (HB1.out _)) (by simp; omega)).mono ?_
      rintro e w1 ⟨rfl, hb1⟩
      obtain ⟨c0, c1, c2, c3, c4, hg⟩ := box5 hb1
      have HBB := Lib.hid (And.intro ((HW1.out _).trans (hb1.mono (by simp))) ((HB1.out _).trans (hb1.mono (by simp; omega))))
      clear hb1
      go_wp2_with fail
      refine (sFormat f hf1 hf2 _).mono ?_
      rintro e w2 ⟨rfl, hb2⟩
      have d0 := (hb2.cell (p := ⟨w.heap.size, 0, none⟩) hg).trans c0
      have d2 := (hb2.cell (p := ⟨w.heap.size, 2, none⟩) hg).trans c2
      have d3 := (hb2.cell (p := ⟨w.heap.size, 3, none⟩) hg).trans c3
      have d4 := (hb2.cell (p := ⟨w.heap.size, 4, none⟩) hg).trans c4
      have HB2 := Lib.hid (And.intro (HBB.out.1.trans (hb2.mono HBB.out.1.size)) (HBB.out.2.trans (hb2.mono (Nat.le_trans hB HBB.out.1.size))))
      clear hb2 c0 c1 c2 c3 c4
      go_wp2_with fail
      refine (sFmtP _ B PA Pn Pc ps (HP.out.below HB2.out.2) (Nat.le_trans hB HB2.out.1.size) HNN.out.2 true ⟨fun _ => HOk.out, fun _ => rfl⟩).mono ?_
      rintro e w3 ⟨rfl, hb3⟩
      have HB3 := Lib.hid (HB2.out.1.trans (hb3.mono HB2.out.1.size))
      clear hb3 d0 d2 d3 d4
      have hsz : (fmtP ps true).size ≤ 60 := by
        show (pairsT ps).toArray.size ≤ _
        rw [List.size_toArray]
        omega
      go_wp2
      go_ret
      refine ⟨congrArg (fun x => Ending.returned (.string x)) (fmtW_ext ?_), HB3.out⟩
      rw [wishT4]
      simp [fmtB, fmtP, ByteArray.data_append]
end Go.Proofs.YtadjoiahllekdaaGreatDoor.num
namespace Go.Proofs.YtadjoiahllekdaaGreatDoor.num
set_option maxRecDepth 20000
open Go.RowKit
set_option linter.unusedVariables false

theorem joinS_snoc (a s : List UInt8) (l : List (List UInt8)) (h : l ≠ []) : Lib.join (l ++ [a]) s = Lib.join l s ++ s ++ a := by
  cases l with
  | nil => exact absurd rfl h
  | cons b r =>
    rw [List.cons_append, Lib.join_cons, Lib.join_cons]
    unfold Lib.joinTail
    rw [List.map_append, List.flatten_append]
    simp [List.append_assoc]
theorem joinS_le {m : Nat} (s : List UInt8) (l : List (List UInt8)) (h : ∀ x, x ∈ l → x.length ≤ m) : (Lib.join l s).length ≤ (m + s.length) * l.length := by
  cases l with
  | nil => simp [Lib.join_nil]
  | cons b r =>
    rw [Lib.join_cons]
    have h1 := h b (by simp)
    have h2 : ∀ r : List (List UInt8), (∀ x, x ∈ r → x.length ≤ m) → (Lib.joinTail s r).length ≤ (m + s.length) * r.length := fun r hr => by
      induction r with
      | nil => simp [Lib.joinTail]
      | cons c r ih =>
        have h3 := ih fun x hx => hr x (List.mem_cons_of_mem _ hx)
        have h4 := hr c (by simp)
        unfold Lib.joinTail at h3 ⊢
        rw [List.map_cons, List.flatten_cons, List.length_append, List.length_append, List.length_cons, Nat.mul_add, Nat.mul_one]
        omega
    have h3 := h2 r fun x hx => h x (List.mem_cons_of_mem _ hx)
    rw [List.length_append, List.length_cons, Nat.mul_add, Nat.mul_one]
    omega
/-- The text of a node. -/
def nodeT (nd : ND) : List UInt8 := if nd.op = 0 then wishT nd.w else owT.getD nd.op.toNat []
/-- The text of an expression. -/
def exprT (nds : List ND) : List UInt8 := Lib.join (nds.map nodeT) [59, 32]
def preE (nds : List ND) (k : Nat) : ByteArray := ⟨(exprT (nds.take k)).toArray⟩
theorem preE_list (nds : List ND) (k : Nat) : (preE nds k).data.toList = exprT (nds.take k) := rfl
theorem preE_zero (nds : List ND) : preE nds 0 = ⟨#[]⟩ := rfl
def nodeB (nd : ND) : ByteArray := ⟨(nodeT nd).toArray⟩
theorem preE_one {nds : List ND} {x : ND} (h : nds[0]? = some x) : (⟨#[]⟩ : ByteArray) ++ nodeB x = preE nds 1 := by
  apply bytes_ext
  rw [preE_list, ptake_at (k := 0) h]
  simp [exprT, Lib.join_one, nodeB, ByteArray.data_append]
theorem preE_step {nds : List ND} {k : Nat} {x : ND} (hk : 0 < k) (h : nds[k]? = some x) : preE nds k ++ ⟨#[59, 32]⟩ ++ nodeB x = preE nds (k + 1) := by
  have hlt : k < nds.length := (List.getElem?_eq_some_iff.1 h).1
  apply bytes_ext
  rw [preE_list, ptake_at h]
  unfold exprT
  rw [List.map_append, List.map_cons, List.map_nil, joinS_snoc _ _ _ (by
    intro e
    have := congrArg List.length e
    rw [List.length_map, List.length_take, List.length_nil] at this
    omega)]
  simp [preE, exprT, nodeB, ByteArray.data_append]
/-- What FormatExpression answers. -/
def fmtE (nds : List ND) (q : Bool) : ByteArray := if q then ⟨(exprT nds).toArray⟩ else ⟨#[]⟩
theorem IsE.node {nds : List ND} (h : IsE nds) {k : Nat} {nd : ND} (hk : nds[k]? = some nd) : (nd.op = 0 ∧ IsW nd.w) ∨ ((nd.op = 1 ∨ nd.op = 2 ∨ nd.op = 3 ∨ nd.op = 4) ∧ NoW nd.w) := by
  obtain ⟨_, t, ht⟩ := h
  have h1 := post_stk.1 ht
  rw [← List.take_append_drop (k + 1) nds] at h1
  obtain ⟨s, hs⟩ := h1.pre
  rw [ptake_at hk] at hs
  rcases hs.inv with ⟨h0, hw, _⟩ | ⟨h3, hw, _⟩ | ⟨hb, hw, _⟩
  · exact .inl ⟨h0, hw⟩
  · exact .inr ⟨.inr (.inr (.inl h3)), hw⟩
  · refine .inr ⟨?_, hw⟩
    unfold Bin at hb
    omega
theorem nodeT_len {nd : ND} (h : (nd.op = 0 ∧ IsW nd.w) ∨ ((nd.op = 1 ∨ nd.op = 2 ∨ nd.op = 3 ∨ nd.op = 4) ∧ NoW nd.w)) (hl : nd.w.ls.length ≤ 1048576) : (nodeT nd).length ≤ 3200000 := by
  unfold nodeT
  rcases h with ⟨h0, hw⟩ | ⟨h0, _⟩
  · rw [if_pos h0]
    unfold wishT
    have h1 : (kwT.getD nd.w.kind.toNat []).length ≤ 5 := by
      have hk := hw.k
      rcases (show nd.w.kind = 0 ∨ nd.w.kind = 1 ∨ nd.w.kind = 2 ∨ nd.w.kind = 3 ∨ nd.w.kind = 4 by omega) with e | e | e | e | e <;> rw [e] <;> decide
    have h2 : (Lib.itoa nd.w.field).length ≤ 2 := itoa_small (by have := hw.f; unfold InR; omega)
    have h3 : (restT nd.w).length ≤ 3145729 := by
      unfold restT
      split
      · next e =>
        have hv := hw.v
        rw [if_pos e] at hv
        have := itoa_small hv
        rw [List.length_cons]
        omega
      · split
        · next e =>
          have := intsT_len (hw.asc e).2.1
          rw [List.length_cons]
          omega
        · split
          · next e =>
            have := pairsT_len (hw.okp e)
            rw [List.length_cons]
            omega
          · simp
    rw [List.length_append, List.length_cons, List.length_cons, List.length_append]
    omega
  · rcases h0 with e | e | e | e <;> rw [e, if_neg (by decide)] <;> decide
theorem exprT_len {nds : List ND} (h : IsE nds) (hl : ∀ nd ∈ nds, nd.w.ls.length ≤ 1048576) (k : Nat) : (exprT (nds.take k)).length ≤ 28800018 := by
  have h1 := joinS_le (m := 3200000) [59, 32] ((nds.take k).map nodeT) fun x hx => by
    obtain ⟨nd, hnd, rfl⟩ := List.mem_map.1 hx
    have hm := List.mem_of_mem_take hnd
    obtain ⟨i, hi, rfl⟩ := List.getElem_of_mem hm
    exact nodeT_len (h.node (List.getElem?_eq_getElem hi)) (hl _ hm)
  have h2 : ((nds.take k).map nodeT).length ≤ 9 := by rw [List.length_map, List.length_take]; have := h.1; omega
  have h3 := Nat.mul_le_mul_left (3200000 + [59, 32].length) h2
  unfold exprT
  exact Nat.le_trans h1 (Nat.le_trans h3 (by decide))
theorem preE_size {nds : List ND} (h : IsE nds) (hl : ∀ nd ∈ nds, nd.w.ls.length ≤ 1048576) (k : Nat) : (preE nds k).size ≤ 28800018 := by
  have := exprT_len h hl k
  show (exprT (nds.take k)).toArray.size ≤ _
  rwa [List.size_toArray]
theorem fmtW_node {nd : ND} (h : nd.op = 0) : fmtW nd.w true = nodeB nd := by
  unfold fmtW nodeB nodeT
  rw [if_pos rfl, if_pos h]
theorem owB_node {nd : ND} (h : nd.op ≠ 0) : owB nd.op.toNat = nodeB nd := by
  unfold owB nodeB nodeT
  rw [if_neg h]
theorem nodeB_size {nd : ND} (h : (nd.op = 0 ∧ IsW nd.w) ∨ ((nd.op = 1 ∨ nd.op = 2 ∨ nd.op = 3 ∨ nd.op = 4) ∧ NoW nd.w)) (hl : nd.w.ls.length ≤ 1048576) : (nodeB nd).size ≤ 3200000 := by
  have := nodeT_len h hl
  show (nodeT nd).toArray.size ≤ _
  rwa [List.size_toArray]
theorem lens_dat {w : World} {B : Nat} {A : Option Addr} {n : Nat} {ns : List Nd} (h : Nodes w B A n ns) (hN : ShortN ns) : ∀ nd ∈ datN ns, nd.w.ls.length ≤ 1048576 := fun nd hnd => by
  unfold datN at hnd
  obtain ⟨x, hx, rfl⟩ := List.mem_map.1 hnd
  have h1 := (h.x x hx).2.l.1
  show x.t.ls.length ≤ _
  rw [h1]
  exact (hN x hx).1
end Go.Proofs.YtadjoiahllekdaaGreatDoor.num
namespace Go.Proofs.YtadjoiahllekdaaGreatDoor.num
set_option maxRecDepth 20000
open Go.RowKit
set_option linter.unusedVariables false
set_option linter.unusedSimpArgs false

/-- What stands behind the second space. -/
def argT (d : WD) : List UInt8 := if d.kind = 2 then Lib.itoa d.value else if d.kind = 3 then intsT d.ls else if d.kind = 4 then pairsT d.ps else []
/-- The word of the field. -/
def bodyT (d : WD) : List UInt8 := 102 :: Lib.itoa d.field
def kwOf (d : WD) : List UInt8 := kwT.getD d.kind.toNat []
theorem restT_arg (d : WD) (h : 0 ≤ d.kind ∧ d.kind ≤ 4) : restT d = if d.kind < 2 then [] else 32 :: argT d := by
  unfold restT argT
  rcases (show d.kind = 0 ∨ d.kind = 1 ∨ d.kind = 2 ∨ d.kind = 3 ∨ d.kind = 4 by omega) with e | e | e | e | e <;> simp [e]
theorem wishT_eq (d : WD) : wishT d = kwOf d ++ 32 :: (bodyT d ++ restT d) := rfl
theorem kw_not {k : Nat} : ∀ x ∈ kwT.getD k [], x ≠ (32 : UInt8) := by
  rcases (show k = 0 ∨ k = 1 ∨ k = 2 ∨ k = 3 ∨ k = 4 ∨ 5 ≤ k by omega) with rfl | rfl | rfl | rfl | rfl | h
  iterate 5 decide
  intro x hx
  rw [List.getD_eq_getElem?_getD, List.getElem?_eq_none (by show 5 ≤ k; omega)] at hx
  simp at hx
theorem kwOf_not (d : WD) : ∀ x ∈ kwOf d, x ≠ 32 := kw_not
theorem body_not {d : WD} (h : IsW d) : ∀ x ∈ bodyT d, x ≠ 32 := by
  intro x hx
  rcases List.mem_cons.1 hx with rfl | hx
  · decide
  · exact itoa_not h.f.1 32 (by decide) x hx
theorem join_not {c e : UInt8} (he : e ≠ c) : ∀ l : List (List UInt8), (∀ a ∈ l, ∀ x ∈ a, x ≠ c) → ∀ x ∈ Lib.join l [e], x ≠ c := by
  intro l
  induction l with
  | nil => intro _ x hx; simp [Lib.join] at hx
  | cons a t ih =>
    intro h x hx
    cases t with
    | nil => rw [Lib.join_one] at hx; exact h a (by simp) x hx
    | cons b t =>
      rw [join_cons2] at hx
      simp only [List.mem_append, List.mem_cons] at hx
      rcases hx with hx | rfl | hx
      · exact h a (by simp) x hx
      · exact he
      · exact ih (fun a' ha' => h a' (List.mem_cons_of_mem _ ha')) x (by simpa using hx)
theorem ints_not {l : List Int} (h : ∀ v ∈ l, InR v) : ∀ x ∈ intsT l, x ≠ 32 := by
  refine join_not (by decide) _ fun a ha => ?_
  obtain ⟨v, hv, rfl⟩ := List.mem_map.1 ha
  exact itoa_not (h v hv).1 32 (by decide)
theorem pairs_not {ps : List (Int × Int)} (h : ∀ p, p ∈ ps → InR p.1 ∧ InR p.2) : ∀ x ∈ pairsT ps, x ≠ 32 := by
  unfold pairsT
  split
  · decide
  · refine join_not (by decide) _ fun a ha => ?_
    obtain ⟨p, hp, rfl⟩ := List.mem_map.1 ha
    intro x hx
    unfold pairT at hx
    simp only [List.mem_append, List.mem_cons] at hx
    rcases hx with hx | rfl | hx
    · exact itoa_not (h p hp).1.1 32 (by decide) x hx
    · decide
    · exact itoa_not (h p hp).2.1 32 (by decide) x hx
theorem arg_not {d : WD} (h : IsW d) : ∀ x ∈ argT d, x ≠ 32 := by
  have h1 := h.v
  have h2 := h.l
  have h3 := h.p
  unfold argT
  split
  · rename_i e
    rw [if_pos e] at h1
    exact itoa_not h1.1 32 (by decide)
  · split
    · rename_i e
      rw [if_pos e] at h2
      exact ints_not h2.2.1
    · split
      · rename_i e
        rw [if_pos e] at h3
        exact pairs_not h3.1.rng
      · intro x hx; simp at hx
theorem wish_pieces {d : WD} (h : IsW d) : pieces 32 (wishT d) = kwOf d :: bodyT d :: (if d.kind < 2 then [] else [argT d]) := by
  rw [wishT_eq, pieces_app (kwOf_not d), restT_arg d h.k]
  split
  · rw [List.append_nil, pieces_none (body_not h)]
  · rw [pieces_app (body_not h), pieces_none (arg_not h)]
theorem cut_none {c : UInt8} : ∀ {l : List UInt8}, (∀ x ∈ l, x ≠ c) → Lib.cut l [c] = (l, [], false)
  | [], _ => rfl
  | b :: l, h => by
    rw [cut_cons, if_neg (h b (by simp)), cut_none fun x hx => h x (List.mem_cons_of_mem _ hx)]
    rfl
theorem wish_cut {d : WD} (h : IsW d) : (Lib.cut (wishT d) [32]).1 = kwOf d ∧ (Lib.cut (Lib.cut (wishT d) [32]).2.1 [32]).1 = bodyT d ∧ (Lib.cut (Lib.cut (wishT d) [32]).2.1 [32]).2.1 = argT d := by
  rw [wishT_eq, cut_app (kwOf_not d), restT_arg d h.k]
  refine ⟨rfl, ?_⟩
  show (Lib.cut (bodyT d ++ if d.kind < 2 then [] else 32 :: argT d) [32]).1 = bodyT d ∧ (Lib.cut (bodyT d ++ if d.kind < 2 then [] else 32 :: argT d) [32]).2.1 = argT d
  split
  · rename_i e
    rw [List.append_nil, cut_none (body_not h)]
    refine ⟨rfl, ?_⟩
    unfold argT
    rw [if_neg (by omega), if_neg (by omega), if_neg (by omega)]
  · rw [cut_app (body_not h)]
    exact ⟨rfl, rfl⟩
theorem ints_pieces : ∀ {l : List Int}, l ≠ [] → (∀ v ∈ l, InR v) → pieces 44 (intsT l) = l.map Lib.itoa
  | [a], _, h => by
    show pieces 44 (Lib.join [Lib.itoa a] [44]) = _
    rw [Lib.join_one, pieces_none (itoa_not (h a (by simp)).1 44 (by decide))]; rfl
  | a :: b :: t, _, h => by
    have e : intsT (a :: b :: t) = Lib.itoa a ++ 44 :: intsT (b :: t) := by
      unfold intsT
      rw [List.map_cons, List.map_cons, join_cons2]
    rw [e, pieces_app (itoa_not (h a (by simp)).1 44 (by decide)), ints_pieces (by simp) fun v hv => h v (List.mem_cons_of_mem _ hv)]
    rfl
/-- The answer to a text. -/
def ParsedW (s : List UInt8) (d : WD) (ok : Bool) : Prop := (ok = true ∧ IsW d ∧ wishT d = s) ∨ (ok = false ∧ d = ⟨0, 0, 0, [], []⟩ ∧ ∀ d', IsW d' → wishT d' ≠ s)
/-- The kind that the model reads. -/
def kindS (p : List UInt8) : Int := if p = kwT.getD 1 [] then 1 else if p = kwT.getD 2 [] then 2 else if p = kwT.getD 3 [] then 3 else if p = kwT.getD 4 [] then 4 else 0
theorem kindS_kw {k : Int} (h : 0 ≤ k ∧ k ≤ 4) : kindS (kwT.getD k.toNat []) = k := by
  rcases (show k = 0 ∨ k = 1 ∨ k = 2 ∨ k = 3 ∨ k = 4 by omega) with rfl | rfl | rfl | rfl | rfl <;> decide
/-- The field that the model reads. -/
def fS (p : List UInt8) : Int := if p.length < 2 ∨ p.head? ≠ some 102 then -1 else numS p.tail
theorem itoa_ne {m : Int} (h0 : 0 ≤ m) (h1 : m ≤ 99) : Lib.itoa m ≠ [] := fun e => by
  have h := (ok_itoa h0 h1).1
  rw [e, ok_nil] at h
  cases h
theorem fS_body {d : WD} (h : IsW d) : fS (bodyT d) = d.field := by
  have hf := h.f
  have hn := List.length_pos_iff.2 (itoa_ne hf.1 (show d.field ≤ 99 by omega))
  unfold fS bodyT
  rw [if_neg (by simp; omega)]
  exact numS_itoa hf.1 (by omega)
/-- What the model makes of a text: its pieces. -/
def argS (s : List UInt8) : List UInt8 := if (pieces 32 s).length = 3 then (pieces 32 s).getD 2 [] else []
structure SpecW (s : List UInt8) (d : WD) : Prop where
  k : d.kind = kindS ((pieces 32 s).getD 0 [])
  f : d.field = fS ((pieces 32 s).getD 1 [])
  v : d.value = if d.kind = 2 then numS (argS s) else 0
  l : d.ls = if d.kind = 3 then (pieces 44 (argS s)).map numS else []
  p : if d.kind = 4 then ∃ ok, ParsedP (argS s) d.ps ok else d.ps = []
theorem argS_text {d : WD} (h : IsW d) : argS (wishT d) = argT d := by
  unfold argS
  rw [wish_pieces h]
  by_cases e : d.kind < 2
  · have e2 : ¬ d.kind = 2 := by omega
    have e3 : ¬ d.kind = 3 := by omega
    have e4 : ¬ d.kind = 4 := by omega
    have ea : argT d = [] := by unfold argT; rw [if_neg e2, if_neg e3, if_neg e4]
    rw [if_pos e, ea]; rfl
  · rw [if_neg e]; rfl
theorem argT2 {d : WD} (e : d.kind = 2) : argT d = Lib.itoa d.value := by unfold argT; rw [if_pos e]
theorem argT3 {d : WD} (e : d.kind = 3) : argT d = intsT d.ls := by unfold argT; rw [if_neg (by omega), if_pos e]
theorem argT4 {d : WD} (e : d.kind = 4) : argT d = pairsT d.ps := by unfold argT; rw [if_neg (by omega), if_neg (by omega), if_pos e]
theorem map_numS {l : List Int} (h : ∀ v ∈ l, InR v) : (l.map Lib.itoa).map numS = l := by
  rw [List.map_map]
  refine (List.map_congr_left (g := id) fun v hv => ?_).trans (List.map_id _)
  exact numS_itoa (h v hv).1 (by have := (h v hv).2; omega)
theorem specW_self {d : WD} (h : IsW d) : SpecW (wishT d) d := by
  have hk : kindS ((pieces 32 (wishT d)).getD 0 []) = d.kind := by rw [wish_pieces h]; exact kindS_kw h.k
  have h1 := h.v
  have h2 := h.l
  have h3 := h.p
  refine ⟨hk.symm, ?_, ?_, ?_, ?_⟩
  · rw [wish_pieces h]; exact (fS_body h).symm
  · rw [argS_text h]
    by_cases e : d.kind = 2
    · rw [if_pos e] at h1 ⊢
      rw [argT2 e, numS_itoa h1.1 (by have := h1.2; omega)]
    · rw [if_neg e] at h1 ⊢; exact h1
  · rw [argS_text h]
    by_cases e : d.kind = 3
    · rw [if_pos e] at h2 ⊢
      rw [argT3 e, ints_pieces h2.1 h2.2.1, map_numS h2.2.1]
    · rw [if_neg e] at h2 ⊢; exact h2
  · rw [argS_text h]
    by_cases e : d.kind = 4
    · rw [if_pos e] at h3 ⊢
      exact ⟨true, .inl ⟨rfl, h3, (argT4 e).symm⟩⟩
    · rw [if_neg e] at h3 ⊢; exact h3
theorem SpecW.one {s : List UInt8} {d d' : WD} (h : SpecW s d) (g : SpecW s d') : d = d' := by
  obtain ⟨k, f, v, l, p⟩ := d
  obtain ⟨k', f', v', l', p'⟩ := d'
  obtain ⟨h1, h2, h3, h4, h5⟩ := h
  obtain ⟨g1, g2, g3, g4, g5⟩ := g
  dsimp only at *
  obtain rfl : k = k' := h1.trans g1.symm
  obtain rfl : f = f' := h2.trans g2.symm
  obtain rfl : v = v' := h3.trans g3.symm
  obtain rfl : l = l' := h4.trans g4.symm
  have : p = p' := by
    by_cases e : k = 4
    · rw [if_pos e] at h5 g5
      obtain ⟨o1, q1⟩ := h5
      obtain ⟨o2, q2⟩ := g5
      exact (q1.one q2).1
    · rw [if_neg e] at h5 g5
      rw [h5, g5]
  rw [this]
theorem wishT_inj {d d' : WD} (h : IsW d) (h' : IsW d') (e : wishT d = wishT d') : d = d' := (specW_self h).one (e ▸ specW_self h')
theorem ParsedW.one {s : List UInt8} {d d' : WD} {ok ok' : Bool} (h : ParsedW s d ok) (g : ParsedW s d' ok') : d = d' ∧ ok = ok' := by
  rcases h with ⟨rfl, h1, h2⟩ | ⟨rfl, h1, h2⟩ <;> rcases g with ⟨rfl, g1, g2⟩ | ⟨rfl, g1, g2⟩
  · exact ⟨wishT_inj h1 g1 (h2.trans g2.symm), rfl⟩
  · exact (g2 _ h1 h2).elim
  · exact (h2 _ g1 g2).elim
  · exact ⟨h1.trans g1.symm, rfl⟩
theorem SpecW.no {s : List UInt8} {d : WD} (h : SpecW s d) (hn : ¬ (IsW d ∧ wishT d = s)) : ParsedW s ⟨0, 0, 0, [], []⟩ false :=
  .inr ⟨rfl, rfl, fun d' h' e => hn (by obtain rfl := h.one (e ▸ specW_self h'); exact ⟨h', e⟩)⟩
/-- The kind that the program reads. -/
def kindI (p : List UInt8) : Int := if p = kwT.getD 0 [] then 0 else if p = kwT.getD 1 [] then 1 else if p = kwT.getD 2 [] then 2 else if p = kwT.getD 3 [] then 3 else if p = kwT.getD 4 [] then 4 else -1
theorem kindI_kw {k : Int} (h : 0 ≤ k ∧ k ≤ 4) : kindI (kwT.getD k.toNat []) = k := by
  rcases (show k = 0 ∨ k = 1 ∨ k = 2 ∨ k = 3 ∨ k = 4 by omega) with rfl | rfl | rfl | rfl | rfl <;> decide
def readWd (s : List UInt8) : List UInt8 := (Lib.cut s [32]).1
def readFd (s : List UInt8) : List UInt8 := (Lib.cut (Lib.cut s [32]).2.1 [32]).1
def readAr (s : List UInt8) : List UInt8 := (Lib.cut (Lib.cut s [32]).2.1 [32]).2.1
/-- What the program makes of a text. -/
structure ImplW (s : List UInt8) (d : WD) : Prop where
  k : d.kind = kindI (readWd s)
  f : d.field = pVal (Lib.trimPrefix (readFd s) [102])
  v : d.value = if d.kind = 2 then pVal (readAr s) else 0
  l : if d.kind = 3 then (allOk (pieces 44 (readAr s)) = true → d.ls = (pieces 44 (readAr s)).map pVal) else d.ls = []
  p : if d.kind = 4 then ∃ ok, ParsedP (readAr s) d.ps ok else d.ps = []
theorem map_pVal {l : List Int} (h : ∀ v ∈ l, InR v) : allOk (l.map Lib.itoa) = true ∧ (l.map Lib.itoa).map pVal = l := by
  refine ⟨?_, ?_⟩
  · unfold allOk
    rw [List.all_eq_true]
    intro a ha
    obtain ⟨v, hv, rfl⟩ := List.mem_map.1 ha
    exact (ok_itoa (h v hv).1 (by have := (h v hv).2; omega)).1
  · rw [List.map_map]
    refine (List.map_congr_left (g := id) fun v hv => ?_).trans (List.map_id _)
    exact (ok_itoa (h v hv).1 (by have := (h v hv).2; omega)).2
theorem trim_body (d : WD) : Lib.trimPrefix (bodyT d) [102] = Lib.itoa d.field := by
  unfold bodyT Lib.trimPrefix Lib.hasPrefix
  simp
theorem implW_text {d d' : WD} (h : IsW d') (g : ImplW (wishT d') d) : d = d' := by
  obtain ⟨c1, c2, c3⟩ := wish_cut h
  obtain ⟨k, f, v, l, p⟩ := d
  obtain ⟨g1, g2, g3, g4, g5⟩ := g
  unfold readWd at g1
  unfold readFd at g2
  unfold readAr at g3 g4 g5
  rw [c1] at g1
  rw [c2, trim_body] at g2
  rw [c3] at g3 g4 g5
  have h1 := h.v
  have h2 := h.l
  have h3 := h.p
  have hk := h.k
  have hf := h.f
  obtain ⟨k', f', v', l', p'⟩ := d'
  dsimp only at *
  obtain rfl : k = k' := g1.trans (kindI_kw hk)
  obtain rfl : f = f' := g2.trans (ok_itoa hf.1 (by omega)).2
  have e1 : v = v' := by
    by_cases e : k = 2
    · rw [if_pos e] at h1 g3
      rw [g3, argT2 e]
      exact (ok_itoa h1.1 (by have := h1.2; omega)).2
    · rw [if_neg e] at h1 g3
      rw [g3, h1]
  have e2 : l = l' := by
    by_cases e : k = 3
    · rw [if_pos e] at h2 g4
      rw [argT3 e] at g4
      dsimp only at g4
      rw [ints_pieces h2.1 h2.2.1] at g4
      obtain ⟨m1, m2⟩ := map_pVal h2.2.1
      rw [g4 m1, m2]
    · rw [if_neg e] at h2 g4
      rw [g4, h2]
  have e3 : p = p' := by
    by_cases e : k = 4
    · rw [if_pos e] at h3 g5
      obtain ⟨ok, q⟩ := g5
      rw [argT4 e] at q
      exact (q.one (.inl ⟨rfl, h3, rfl⟩)).1
    · rw [if_neg e] at h3 g5
      rw [g5, h3]
  rw [e1, e2, e3]
theorem ImplW.no {s : List UInt8} {d : WD} (h : ImplW s d) (hn : ¬ (IsW d ∧ wishT d = s)) : ParsedW s ⟨0, 0, 0, [], []⟩ false :=
  .inr ⟨rfl, rfl, fun d' h' e => hn (by obtain rfl := implW_text h' (e ▸ h); exact ⟨h', e⟩)⟩
/-- A text of other than two or three pieces is no wish's. -/
theorem count_no {s : List UInt8} (h : (pieces 32 s).length < 2 ∨ 3 < (pieces 32 s).length) : ParsedW s ⟨0, 0, 0, [], []⟩ false :=
  .inr ⟨rfl, rfl, fun d' h' e => by
    rw [← e, wish_pieces h'] at h
    split at h <;> simp at h⟩
theorem wishT_ne {d : WD} : wishT d ≠ [] := fun e => by
  rw [wishT_eq] at e
  simp at e
end Go.Proofs.YtadjoiahllekdaaGreatDoor.num
namespace Go.Proofs.YtadjoiahllekdaaGreatDoor.num
set_option maxRecDepth 20000
open Go.RowKit
set_option linter.unusedVariables false
set_option linter.unusedSimpArgs false

/-! A text split at a separator of more than one byte. -/
theorem joinL_cons (a : List UInt8) {l : List (List UInt8)} (h : l ≠ []) (s : List UInt8) : Lib.join (a :: l) s = a ++ s ++ Lib.join l s := by
  cases l with
  | nil => exact absurd rfl h
  | cons b r =>
    rw [Lib.join_cons, Lib.join_cons]
    unfold Lib.joinTail
    simp [List.append_assoc]
theorem index_no {c : UInt8} {t : List UInt8} : ∀ {a : List UInt8}, (∀ x ∈ a, x ≠ c) → Lib.index a (c :: t) = -1
  | [], _ => by simp [Lib.index]
  | x :: a, h => by
    have ih := index_no (t := t) (a := a) fun y hy => h y (List.mem_cons_of_mem _ hy)
    have hx := h x List.mem_cons_self
    have hp : (c :: t : List UInt8).isPrefixOf (x :: a) = false := by simp [List.isPrefixOf, Ne.symm hx]
    rw [Lib.index, hp, ih]; simp
theorem index_at {c : UInt8} {t r : List UInt8} : ∀ {a : List UInt8}, (∀ x ∈ a, x ≠ c) → Lib.index (a ++ (c :: t) ++ r) (c :: t) = (a.length : Nat)
  | [], _ => by
    have hp : (c :: t : List UInt8).isPrefixOf (c :: (t ++ r)) = true := by simp [List.isPrefixOf]
    show Lib.index (c :: (t ++ r)) (c :: t) = _
    rw [Lib.index, hp]; simp
  | x :: a, h => by
    have ih := index_at (t := t) (r := r) (a := a) fun y hy => h y (List.mem_cons_of_mem _ hy)
    have hx := h x List.mem_cons_self
    have hp : (c :: t : List UInt8).isPrefixOf (x :: (a ++ (c :: t) ++ r)) = false := by simp [List.isPrefixOf, Ne.symm hx]
    show Lib.index (x :: (a ++ (c :: t) ++ r)) (c :: t) = _
    rw [Lib.index, hp, ih]
    have : (((a.length : Nat) : Int) == -1) = false := by rw [beq_eq_false_iff_ne]; omega
    simp [this]
theorem splitK_ne (sep : List UInt8) : ∀ (k : Nat) (s : List UInt8), Lib.splitK sep 0 k s ≠ []
  | 0, s => by simp [Lib.splitK]
  | k + 1, s => by unfold Lib.splitK; split <;> simp
theorem split_join {c : UInt8} {t : List UInt8} : ∀ {l : List (List UInt8)}, l ≠ [] → (∀ a ∈ l, ∀ x ∈ a, x ≠ c) → Lib.splitK (c :: t) 0 (Lib.count (Lib.join l (c :: t)) (c :: t)) (Lib.join l (c :: t)) = l
  | [], h, _ => absurd rfl h
  | [a], _, h => by
    have h1 := index_no (t := t) (h a (by simp))
    rw [Lib.join_one, Lib.count_miss h1]; rfl
  | a :: b :: r, _, h => by
    have ih := split_join (c := c) (t := t) (l := b :: r) (by simp) fun x hx => h x (List.mem_cons_of_mem _ hx)
    rw [joinL_cons a (by simp)]
    have h1 := index_at (t := t) (r := Lib.join (b :: r) (c :: t)) (h a (by simp))
    have hd : (a ++ (c :: t) ++ Lib.join (b :: r) (c :: t)).drop (a.length + (c :: t).length) = Lib.join (b :: r) (c :: t) := by
      rw [← List.length_append, List.drop_left]
    rw [Lib.count_hit (by simp) h1, hd, Nat.add_comm 1, Lib.splitK, h1, if_neg (by simp)]
    have e : ((a.length : Nat) : Int).toNat = a.length := by omega
    rw [e, hd, ih, Nat.add_zero, List.append_assoc, List.take_left]
theorem join_split (sep : List UInt8) (hsep : sep ≠ []) : ∀ (k : Nat) (s : List UInt8), Lib.count s sep = k → Lib.join (Lib.splitK sep 0 k s) sep = s
  | 0, s, _ => Lib.join_one s sep
  | k + 1, s, hk => by
    rcases Lib.index_spec s sep with ⟨hm, _⟩ | ⟨i, hi, hle, hocc, _⟩
    · rw [Lib.count_miss hm] at hk; omega
    · have h1 := Lib.count_hit hsep hi
      have ih := join_split sep hsep k (s.drop (i + sep.length)) (by omega)
      have e : (Lib.index s sep).toNat = i := by omega
      rw [Lib.splitK, if_neg (by rw [hi]; simp), e, Nat.add_zero, joinL_cons _ (splitK_ne _ _ _), ih]
      obtain ⟨t, ht⟩ := List.isPrefixOf_iff_prefix.1 (show sep.isPrefixOf (s.drop i) = true from hocc)
      have h2 : s.drop (i + sep.length) = t := by
        rw [← List.drop_drop, ← ht, List.drop_left]
      rw [h2, List.append_assoc, ht, List.take_append_drop]
theorem splitB_words (s : ByteArray) : (Lib.splitB ⟨#[59, 32]⟩ 0 (Lib.countB s ⟨#[59, 32]⟩) s).map (·.data.toList) = Lib.splitK [59, 32] 0 (Lib.count s.data.toList [59, 32]) s.data.toList := Lib.splitB_data _ _ _ _
/-- The words that the program reads. -/
def wordsE (s : List UInt8) : List (List UInt8) := Lib.splitK [59, 32] 0 (Lib.count s [59, 32]) s
theorem wordsE_back (s : List UInt8) : Lib.join (wordsE s) [59, 32] = s := join_split _ (by simp) _ s rfl
theorem wordsE_ne (s : List UInt8) : wordsE s ≠ [] := splitK_ne _ _ _
/-- The words that the model reads. -/
def lessT : List (List UInt8) → List (List UInt8)
  | [] => []
  | h :: t => h :: t.map List.tail
theorem pieces_join {c e : UInt8} (he : e ≠ c) : ∀ {l : List (List UInt8)}, l ≠ [] → (∀ a ∈ l, ∀ x ∈ a, x ≠ c) → ∃ h t, l = h :: t ∧ pieces c (Lib.join l [c, e]) = h :: t.map (e :: ·)
  | [], h, _ => absurd rfl h
  | [a], _, h => ⟨a, [], rfl, by rw [Lib.join_one, pieces_none (h a (by simp))]; rfl⟩
  | a :: b :: r, _, h => by
    obtain ⟨h1, t1, e1, ih⟩ := pieces_join he (l := b :: r) (by simp) fun x hx => h x (List.mem_cons_of_mem _ hx)
    refine ⟨a, b :: r, rfl, ?_⟩
    rw [joinL_cons a (by simp), show a ++ [c, e] ++ Lib.join (b :: r) [c, e] = a ++ c :: (e :: Lib.join (b :: r) [c, e]) by simp, pieces_app (h a (by simp)), pieces_miss he ih, e1]
    rfl
theorem lessT_join {c e : UInt8} (he : e ≠ c) {l : List (List UInt8)} (hl : l ≠ []) (h : ∀ a ∈ l, ∀ x ∈ a, x ≠ c) : lessT (pieces c (Lib.join l [c, e])) = l := by
  obtain ⟨h1, t1, rfl, h2⟩ := pieces_join he hl h
  rw [h2]
  simp [lessT, List.map_map, Function.comp_def]

/-! No node's text holds a semicolon; an operator's word holds no blank. -/
theorem kw_semi {k : Nat} : ∀ x ∈ kwT.getD k [], x ≠ (59 : UInt8) := by
  rcases (show k = 0 ∨ k = 1 ∨ k = 2 ∨ k = 3 ∨ k = 4 ∨ 5 ≤ k by omega) with rfl | rfl | rfl | rfl | rfl | h
  iterate 5 decide
  intro x hx
  rw [List.getD_eq_getElem?_getD, List.getElem?_eq_none (by show 5 ≤ k; omega)] at hx
  simp at hx
theorem ow_semi {k : Nat} : ∀ x ∈ owT.getD k [], x ≠ (59 : UInt8) ∧ x ≠ (32 : UInt8) := by
  rcases (show k = 0 ∨ k = 1 ∨ k = 2 ∨ k = 3 ∨ k = 4 ∨ 5 ≤ k by omega) with rfl | rfl | rfl | rfl | rfl | h
  iterate 5 decide
  intro x hx
  rw [List.getD_eq_getElem?_getD, List.getElem?_eq_none (by show 5 ≤ k; omega)] at hx
  simp at hx
theorem ints_semi {l : List Int} (h : ∀ v ∈ l, InR v) : ∀ x ∈ intsT l, x ≠ 59 := by
  refine join_not (by decide) _ fun a ha => ?_
  obtain ⟨v, hv, rfl⟩ := List.mem_map.1 ha
  exact itoa_not (h v hv).1 59 (by decide)
theorem pairs_semi {ps : List (Int × Int)} (h : ∀ p, p ∈ ps → InR p.1 ∧ InR p.2) : ∀ x ∈ pairsT ps, x ≠ 59 := by
  unfold pairsT
  split
  · decide
  · refine join_not (by decide) _ fun a ha => ?_
    obtain ⟨p, hp, rfl⟩ := List.mem_map.1 ha
    intro x hx
    unfold pairT at hx
    simp only [List.mem_append, List.mem_cons] at hx
    rcases hx with hx | rfl | hx
    · exact itoa_not (h p hp).1.1 59 (by decide) x hx
    · decide
    · exact itoa_not (h p hp).2.1 59 (by decide) x hx
theorem rest_semi {d : WD} (h : IsW d) : ∀ x ∈ restT d, x ≠ 59 := by
  have h1 := h.v
  have h2 := h.l
  have h3 := h.p
  unfold restT
  split
  · rename_i e
    rw [if_pos e] at h1
    intro x hx
    rcases List.mem_cons.1 hx with rfl | hx
    · decide
    · exact itoa_not h1.1 59 (by decide) x hx
  · split
    · rename_i e
      rw [if_pos e] at h2
      intro x hx
      rcases List.mem_cons.1 hx with rfl | hx
      · decide
      · exact ints_semi h2.2.1 x hx
    · split
      · rename_i e
        rw [if_pos e] at h3
        intro x hx
        rcases List.mem_cons.1 hx with rfl | hx
        · decide
        · exact pairs_semi h3.1.rng x hx
      · intro x hx; cases hx
theorem wish_semi {d : WD} (h : IsW d) : ∀ x ∈ wishT d, x ≠ 59 := by
  intro x hx
  unfold wishT at hx
  simp only [List.mem_append, List.mem_cons] at hx
  rcases hx with hx | rfl | rfl | hx | hx
  · exact kw_semi x hx
  · decide
  · decide
  · exact itoa_not h.f.1 59 (by decide) x hx
  · exact rest_semi h x hx
theorem wish_blank (d : WD) : (32 : UInt8) ∈ wishT d := by unfold wishT; simp

/-- A node that may stand in an expression. -/
def NodeV (nd : ND) : Prop := (nd.op = 0 ∧ IsW nd.w) ∨ ((nd.op = 1 ∨ nd.op = 2 ∨ nd.op = 3 ∨ nd.op = 4) ∧ NoW nd.w)
theorem nodeT_semi {nd : ND} (h : NodeV nd) : ∀ x ∈ nodeT nd, x ≠ 59 := by
  rcases h with ⟨h0, hw⟩ | ⟨ho, _⟩
  · rw [nodeT, if_pos h0]; exact wish_semi hw
  · rw [nodeT, if_neg (by omega)]; exact fun x hx => (ow_semi x hx).1
theorem owT_inj {a b : Int} (ha : a = 1 ∨ a = 2 ∨ a = 3 ∨ a = 4) (hb : b = 1 ∨ b = 2 ∨ b = 3 ∨ b = 4) (h : owT.getD a.toNat [] = owT.getD b.toNat []) : a = b := by
  rcases ha with rfl | rfl | rfl | rfl <;> rcases hb with rfl | rfl | rfl | rfl <;> first | rfl | exact absurd h (by decide)
theorem nowEq {a b : WD} (ha : NoW a) (hb : NoW b) : a = b := by
  obtain ⟨a1, a2, a3, a4, a5⟩ := a
  obtain ⟨b1, b2, b3, b4, b5⟩ := b
  have h1 := ha.k; have h2 := ha.f; have h3 := ha.v; have h4 := ha.l; have h5 := ha.p
  have g1 := hb.k; have g2 := hb.f; have g3 := hb.v; have g4 := hb.l; have g5 := hb.p
  simp only at h1 h2 h3 h4 h5 g1 g2 g3 g4 g5
  subst h1 h2 h3 h4 h5 g1 g2 g3 g4 g5
  rfl
theorem nodeT_inj {a b : ND} (ha : NodeV a) (hb : NodeV b) (h : nodeT a = nodeT b) : a = b := by
  obtain ⟨oa, wa⟩ := a
  obtain ⟨ob, wb⟩ := b
  unfold nodeT at h
  rcases ha with ⟨h0, hw⟩ | ⟨ho, hn⟩ <;> rcases hb with ⟨g0, gw⟩ | ⟨go, gn⟩ <;> simp only at *
  · rw [if_pos h0, if_pos g0] at h
    rw [wishT_inj hw gw h, h0, g0]
  · rw [if_pos h0, if_neg (by omega)] at h
    have := wish_blank wa
    rw [h] at this
    exact absurd rfl (ow_semi _ this).2
  · rw [if_neg (by omega), if_pos g0] at h
    have := wish_blank wb
    rw [← h] at this
    exact absurd rfl (ow_semi _ this).2
  · rw [if_neg (by omega), if_neg (by omega)] at h
    rw [owT_inj ho go h, nowEq hn gn]
theorem nodeT_ne {nd : ND} (h : NodeV nd) : nodeT nd ≠ [] := by
  rcases h with ⟨h0, hw⟩ | ⟨ho, _⟩
  · rw [nodeT, if_pos h0]; exact wishT_ne
  · rw [nodeT, if_neg (by omega)]
    rcases ho with e | e | e | e <;> rw [e] <;> decide
/-- What a reader makes of a word. -/
def ParsedN (s : List UInt8) (nd : ND) (ok : Bool) : Prop := (ok = true ∧ NodeV nd ∧ nodeT nd = s) ∨ (ok = false ∧ ¬ NodeV nd ∧ ∀ nd', NodeV nd' → nodeT nd' ≠ s) ∨ (ok = false ∧ ∀ nd', NodeV nd' → nodeT nd' ≠ s)
theorem ParsedN.of {s : List UInt8} {nd : ND} {ok : Bool} (h : ParsedN s nd ok) {nd' : ND} (hv : NodeV nd') (hs : nodeT nd' = s) : nd = nd' ∧ ok = true := by
  rcases h with ⟨h1, h2, h3⟩ | ⟨_, _, h2⟩ | ⟨_, h2⟩
  · exact ⟨nodeT_inj h2 hv (h3.trans hs.symm), h1⟩
  · exact absurd hs (h2 nd' hv)
  · exact absurd hs (h2 nd' hv)
theorem IsE.valid {nds : List ND} (h : IsE nds) : ∀ nd ∈ nds, NodeV nd := fun nd hnd => by
  obtain ⟨k, hk⟩ := List.getElem?_of_mem hnd
  exact h.node hk
theorem IsE.some {nds : List ND} (h : IsE nds) : nds ≠ [] := by
  obtain ⟨_, t, ht⟩ := h
  cases ht <;> simp
theorem nodes_semi {nds : List ND} (h : IsE nds) : ∀ a ∈ nds.map nodeT, ∀ x ∈ a, x ≠ 59 := fun a ha => by
  obtain ⟨nd, hnd, rfl⟩ := List.mem_map.1 ha
  exact nodeT_semi (h.valid nd hnd)
theorem exprT_words {nds : List ND} (h : IsE nds) : wordsE (exprT nds) = nds.map nodeT := split_join (by simp [h.some]) (nodes_semi h)
theorem exprT_less {nds : List ND} (h : IsE nds) : lessT (pieces 59 (exprT nds)) = nds.map nodeT := lessT_join (by decide) (by simp [h.some]) (nodes_semi h)
theorem nodes_inj : ∀ {a b : List ND}, (∀ nd ∈ a, NodeV nd) → (∀ nd ∈ b, NodeV nd) → a.map nodeT = b.map nodeT → a = b
  | [], [], _, _, _ => rfl
  | [], _ :: _, _, _, h => by simp at h
  | _ :: _, [], _, _, h => by simp at h
  | x :: a, y :: b, ha, hb, h => by
    rw [List.map_cons, List.map_cons] at h
    obtain ⟨h1, h2⟩ := List.cons.inj h
    rw [nodeT_inj (ha x (by simp)) (hb y (by simp)) h1, nodes_inj (fun n hn => ha n (List.mem_cons_of_mem _ hn)) (fun n hn => hb n (List.mem_cons_of_mem _ hn)) h2]
theorem exprT_inj {a b : List ND} (ha : IsE a) (hb : IsE b) (h : exprT a = exprT b) : a = b := by
  refine nodes_inj ha.valid hb.valid ?_
  rw [← exprT_words ha, ← exprT_words hb, h]
theorem exprT_ne {nds : List ND} (h : IsE nds) : exprT nds ≠ [] := by
  intro e
  have h1 := exprT_words h
  rw [e] at h1
  have h2 : wordsE [] = [[]] := by decide
  rw [h2] at h1
  cases nds with
  | nil => simp at h1
  | cons a r =>
    rw [List.map_cons] at h1
    exact nodeT_ne (h.valid a (by simp)) (List.cons.inj h1).1.symm
/-- What both answer. -/
def ParsedE (s : List UInt8) (nds : List ND) (ok : Bool) : Prop := (ok = true ∧ IsE nds ∧ exprT nds = s) ∨ (ok = false ∧ nds = [] ∧ ∀ nds', IsE nds' → exprT nds' ≠ s)
theorem ParsedE.one {s : List UInt8} {a b : List ND} {p q : Bool} (h : ParsedE s a p) (g : ParsedE s b q) : a = b ∧ p = q := by
  rcases h with ⟨rfl, h1, h2⟩ | ⟨rfl, rfl, h2⟩ <;> rcases g with ⟨rfl, g1, g2⟩ | ⟨rfl, rfl, g2⟩
  · exact ⟨exprT_inj h1 g1 (h2.trans g2.symm), rfl⟩
  · exact absurd h2 (g2 a h1)
  · exact absurd g2 (h2 b g1)
  · exact ⟨rfl, rfl⟩
theorem ParsedE.small {s : List UInt8} {ns : List Nd} {ok : Bool} (h : ParsedE s (ns.map Nd.dat) ok) : ns.length ≤ 9 := by
  rcases h with ⟨_, h, _⟩ | ⟨_, h, _⟩
  · have h9 := h.1
    rwa [List.length_map] at h9
  · have e := congrArg List.length h
    rw [List.length_map] at e
    simp at e
    simp [e]
/-- The words, read one by one. -/
def ReadE (L : List (List UInt8)) (nds : List ND) (oks : List Bool) : Prop := nds.length = L.length ∧ oks.length = L.length ∧ ∀ (k : Nat) (s : List UInt8) (nd : ND) (ok : Bool), L[k]? = some s → nds[k]? = some nd → oks[k]? = some ok → ParsedN s nd ok
/-- Where an expression has the words' text, the readers find it. -/
theorem ReadE.of {nds' nds : List ND} {oks : List Bool} (h : ReadE (nds'.map nodeT) nds oks) (hv : ∀ nd ∈ nds', NodeV nd) : nds = nds' ∧ ∀ ok ∈ oks, ok = true := by
  obtain ⟨h1, h2, h3⟩ := h
  rw [List.length_map] at h1 h2
  have h4 : ∀ k (hk : k < nds'.length), nds[k]? = some nds'[k] ∧ oks[k]? = some true := fun k hk => by
    have e1 : nds[k]? = some nds[k] := List.getElem?_eq_getElem (by omega)
    have e2 : oks[k]? = some oks[k] := List.getElem?_eq_getElem (by omega)
    have e3 := h3 k (nodeT nds'[k]) _ _ (by simp [List.getElem?_eq_getElem hk]) e1 e2
    obtain ⟨e4, e5⟩ := e3.of (hv _ (List.getElem_mem hk)) rfl
    rw [e1, e2, e4, e5]; exact ⟨rfl, rfl⟩
  constructor
  · apply List.ext_getElem? fun k => ?_
    by_cases hk : k < nds'.length
    · rw [(h4 k hk).1, List.getElem?_eq_getElem hk]
    · rw [List.getElem?_eq_none (by omega), List.getElem?_eq_none (by omega)]
  · intro ok hok
    obtain ⟨k, hk⟩ := List.getElem?_of_mem hok
    have hk' : k < oks.length := (List.getElem?_eq_some_iff.1 hk).1
    rw [(h4 k (by omega)).2] at hk
    exact (Option.some.inj hk).symm
/-- Words that were all read are the text of what was read. -/
theorem ReadE.back {L : List (List UInt8)} {nds : List ND} {oks : List Bool} (h : ReadE L nds oks) (ht : ∀ ok ∈ oks, ok = true) : nds.map nodeT = L := by
  obtain ⟨h1, h2, h3⟩ := h
  apply List.ext_getElem? fun k => ?_
  by_cases hk : k < L.length
  · have e1 : nds[k]? = some nds[k] := List.getElem?_eq_getElem (by omega)
    have e2 : oks[k]? = some oks[k] := List.getElem?_eq_getElem (by omega)
    have e3 := h3 k _ _ _ (List.getElem?_eq_getElem hk) e1 e2
    have e4 := ht oks[k] (List.getElem_mem (by omega))
    rw [e4] at e3
    rcases e3 with ⟨_, _, e5⟩ | ⟨e5, _⟩ | ⟨e5, _⟩
    · rw [List.getElem?_map, e1, List.getElem?_eq_getElem hk, Option.map_some, e5]
    · cases e5
    · cases e5
  · rw [List.getElem?_eq_none (by rw [List.length_map]; omega), List.getElem?_eq_none (by omega)]
/-- The program's answer. -/
theorem impl_yes {s : List UInt8} {nds : List ND} {oks : List Bool} (h : ReadE (wordsE s) nds oks) (ht : ∀ ok ∈ oks, ok = true) (he : IsE nds) : ParsedE s nds true :=
  .inl ⟨rfl, he, by unfold exprT; rw [h.back ht]; exact wordsE_back s⟩
theorem impl_no {s : List UInt8} {nds : List ND} {oks : List Bool} (h : ReadE (wordsE s) nds oks) (hn : ¬ ((∀ ok ∈ oks, ok = true) ∧ IsE nds)) : ParsedE s [] false :=
  .inr ⟨rfl, rfl, fun nds' he e => by
    rw [← e, exprT_words he] at h
    obtain ⟨h1, h2⟩ := h.of he.valid
    exact hn ⟨h2, by rw [h1]; exact he⟩⟩
/-- A word that can't be read is enough. -/
theorem impl_stop {s p : List UInt8} {k : Nat} {nd : ND} (hk : (wordsE s)[k]? = some p) (h : ParsedN p nd false) : ParsedE s [] false :=
  .inr ⟨rfl, rfl, fun nds' he e => by
    rw [← e, exprT_words he, List.getElem?_map] at hk
    obtain ⟨nd', h1, rfl⟩ := Option.map_eq_some_iff.1 hk
    have := h.of (he.valid nd' (List.mem_of_getElem? h1)) rfl
    cases this.2⟩
/-- The model's answer: the text of what was read decides. -/
theorem spec_yes {s : List UInt8} {nds : List ND} {q : Bool} (hs : s ≠ []) (hq : q = true ↔ IsE nds) (h : (fmtE nds q).data.toList = s) : ParsedE s nds true := by
  cases q with
  | false => exact absurd h.symm hs
  | true => exact .inl ⟨rfl, hq.1 rfl, h⟩
theorem spec_no {s : List UInt8} {nds : List ND} {oks : List Bool} {q : Bool} (hr : ReadE (lessT (pieces 59 s)) nds oks) (hq : q = true ↔ IsE nds) (h : s = [] ∨ (fmtE nds q).data.toList ≠ s) : ParsedE s [] false :=
  .inr ⟨rfl, rfl, fun nds' he e => by
    rw [← e, exprT_less he] at hr
    obtain ⟨h1, _⟩ := hr.of he.valid
    subst h1
    rcases h with h | h
    · exact exprT_ne he (e.trans h)
    · rw [hq.2 he] at h
      exact h e⟩
end Go.Proofs.YtadjoiahllekdaaGreatDoor.num
namespace Go.Proofs.YtadjoiahllekdaaGreatDoor.num
set_option maxRecDepth 20000
open Go.RowKit Go.Maps
set_option linter.unusedVariables false


set_option maxRecDepth 20000 in
theorem iList (w : World) (B : Nat) (A : Option Addr) (n c : Nat) (xs : List Int) (hi : Ints w B A n xs) (hn : n ≤ 1048576) (b : Bool) (hb : b = true ↔ Asc xs) :
    Calls Tryz.prog 133 #[.slice A n c] w fun e w' => e = .returned (.bool b) ∧ w' = w := by
  have HX := Lib.hid hi
  have HB := Lib.hid hb
  clear hi hb
  have HNo : Hid (¬ AscUp xs → b = false) := Lib.hid fun h => by
    cases b
    · rfl
    · exact absurd (HB.out.1 rfl).2 h
  go_enter Tryz.func133, Tryz.ntmps133
  go_wp2
  go_loopw [7] (fun i wr => ∃ k : Nat, k ≤ n ∧ i = .int .i64 k ∧ AscUp (xs.take k) ∧ wr = w) (fun i _ => n - (intOf i).toNat)
  case atStart => exact ⟨0, Nat.zero_le _, rfl, by rw [List.take_zero]; exact AscUp.nil, rfl⟩
  case round =>
    obtain ⟨k, hk, rfl, hasc, rfl⟩ := hrel
    have HA := Lib.hid hasc
    clear hasc
    by_cases hlt : k < n
    · obtain ⟨b1, off, x, hA1, hb1, hat, hc⟩ := HX.out.at k hlt
      have HT := Lib.hid hat
      have hlt' : (k : Int) < (n : Int) := by omega
      obtain ⟨q, hq⟩ := bool_of (InR x)
      have HQ := Lib.hid hq
      clear hat hq
      cases q
      · obtain rfl : b = false := HNo.out fun h => by have := HQ.out.2 (h.1 x (List.mem_of_getElem? HT.out)); cases this
        subst hA1
        go_wp2_with fail
        refine (isValue_of x false HQ.out _).mono ?_
        rintro e w1 ⟨rfl, rfl⟩
        go_wp2
        go_ret
        exact ⟨rfl, rfl⟩
      · have HD := Lib.hid (HQ.out.1 rfl)
        rcases Nat.eq_zero_or_pos k with h0 | h0
        · have HK := Lib.hid h0
          subst hA1
          clear h0
          have hk0 : decide (0 < k) = false := decide_eq_false (by have := HK.out; omega)
          go_wp2_with fail
          refine (isValue_of x true ⟨fun _ => HD.out, fun _ => rfl⟩ _).mono ?_
          rintro e w1 ⟨rfl, rfl⟩
          go_wp2
          clear hk0
          go_roundw
          case rel => exact ⟨k + 1, by omega, by go_num, ascUp_snoc HA.out HT.out HD.out (fun j u hj _ => by have := HK.out; omega), by first | rfl | trivial⟩
          case measure => simp [intOf]; omega
        · obtain ⟨j, hj⟩ : ∃ j, j + 1 = k := ⟨k - 1, by omega⟩
          obtain ⟨b2, off2, y, hA2, hb2, hat2, hc2⟩ := HX.out.at j (by omega)
          obtain ⟨rfl, rfl⟩ : b1 = b2 ∧ off = off2 := by rw [hA1] at hA2; injection hA2 with h; injection h with h1 h2; exact ⟨h1, h2⟩
          have HT0 := Lib.hid hat2
          have HJ := Lib.hid hj
          have HK0 : Hid ((0 : Int) < (k : Int)) := by show _ < _; omega
          have hkj : (k : Int) - 1 = (j : Int) := by omega
          have hkw : IntKind.i64.wrap ((k : Int) - 1) = (j : Int) := by rw [hkj]; exact IntWalk.i64_in _ ⟨by omega, by omega⟩
          have hjw : IntKind.i64.wrap (j : Int) = (j : Int) := IntWalk.i64_in _ ⟨by omega, by omega⟩
          have hjn : (j : Int) < (n : Int) := by omega
          have hjn' : j < n := by omega
          have hk0 : decide (0 < k) = true := decide_eq_true (by have := HK0.out; omega)
          subst hA1
          clear h0 hj hat2 hA2
          by_cases hle : x ≤ y
          · obtain rfl : b = false := HNo.out (asc_bad (by rw [HJ.out]; exact HT.out) HT0.out hle)
            go_wp2_with fail
            refine (isValue_of x true ⟨fun _ => HD.out, fun _ => rfl⟩ _).mono ?_
            rintro e w1 ⟨rfl, rfl⟩
            go_wp2
            go_ret
            exact ⟨rfl, rfl⟩
          · have HLe : Hid (y < x) := by show _ < _; omega
            go_wp2_with fail
            refine (isValue_of x true ⟨fun _ => HD.out, fun _ => rfl⟩ _).mono ?_
            rintro e w1 ⟨rfl, rfl⟩
            go_wp2
            clear hk0
            go_roundw
            case rel => exact ⟨k + 1, by omega, by go_num, ascUp_snoc HA.out HT.out HD.out (asc_next HJ.out HT0.out HLe.out), by first | rfl | trivial⟩
            case measure => simp [intOf]; omega
    · obtain rfl : k = n := by omega
      have h := HA.out
      rw [ptake_all HX.out.1] at h
      have HH := Lib.hid h
      clear h
      by_cases h0 : (0 : Int) < (k : Int)
      · have hd : decide (0 < k) = true := by simp; omega
        obtain rfl : b = true := HB.out.2 ⟨fun e => by have := HX.out.1; rw [e] at this; simp at this; omega, HH.out⟩
        go_wp2
        go_ret
        exact ⟨by simp, rfl⟩
      · obtain rfl : b = false := by
          cases b
          · rfl
          · exact absurd (List.length_eq_zero_iff.1 (by rw [HX.out.1]; omega)) (HB.out.1 rfl).1
        go_wp2
        go_ret
        exact ⟨by simp; omega, rfl⟩

set_option maxRecDepth 20000 in
theorem iOther (w : World) (t : Wi) (hl : t.Ln ≤ 1048576) (hp : t.Pn ≤ 1048576) (q : Bool) (hq : q = true ↔ (t.kind ≠ 2 ∧ t.value ≠ 0) ∨ (t.kind ≠ 3 ∧ t.Ln ≠ 0) ∨ (t.kind ≠ 4 ∧ t.Pn ≠ 0)) :
    Calls Tryz.prog 132 #[t.val] w fun e w' => e = .returned (.bool q) ∧ Below w.heap.size w w' := by
  obtain ⟨k, f, v, LA, Ln, Lc, ls, PA, Pn, Pc, ps⟩ := t
  unfold Wi.val
  simp only [] at hl hp hq ⊢
  have HW1 : Hid (∀ o : Obj, Below w.heap.size w (w.alloc o)) := Lib.hid fun o => (Below.refl _ w).alloc (Nat.le_refl _) _
  by_cases k2 : k = 2
  · subst k2
    by_cases hL : Ln = 0
    · have hL' : decide (0 < Ln) = false := by simp [hL]
      have hL2 : ¬ ((0 : Int) < (Ln : Int)) := by omega
      by_cases hP : Pn = 0
      · have hP' : decide (0 < Pn) = false := by simp [hP]
        have hP2 : ¬ ((0 : Int) < (Pn : Int)) := by omega
        obtain rfl : q = false := by
          cases q
          · rfl
          · exact absurd (hq.1 rfl) (by omega)
        clear hq hL hP
        go_enter Tryz.func132, Tryz.ntmps132
        go_wp2
        go_ret
        exact ⟨by first | rfl | simp, HW1.out _⟩
      · have hP' : decide (0 < Pn) = true := by simp; omega
        have hP2 : (0 : Int) < (Pn : Int) := by omega
        obtain rfl : q = true := hq.2 (by omega)
        clear hq hL hP
        go_enter Tryz.func132, Tryz.ntmps132
        go_wp2
        go_ret
        exact ⟨by first | rfl | simp, HW1.out _⟩
    · have hL' : decide (0 < Ln) = true := by simp; omega
      have hL2 : (0 : Int) < (Ln : Int) := by omega
      obtain rfl : q = true := hq.2 (by omega)
      clear hq hL
      go_enter Tryz.func132, Tryz.ntmps132
      go_wp2
      go_ret
      exact ⟨by first | rfl | simp, HW1.out _⟩
  · by_cases k3 : k = 3
    · subst k3
      clear k2
      by_cases hv : v = 0
      · have hv' : (v != 0) = false := by simp [hv]
        by_cases hP : Pn = 0
        · have hP' : decide (0 < Pn) = false := by simp [hP]
          have hP2 : ¬ ((0 : Int) < (Pn : Int)) := by omega
          obtain rfl : q = false := by
            cases q
            · rfl
            · exact absurd (hq.1 rfl) (by omega)
          clear hq hv hP
          go_enter Tryz.func132, Tryz.ntmps132
          go_wp2
          go_ret
          exact ⟨by first | rfl | simp, HW1.out _⟩
        · have hP' : decide (0 < Pn) = true := by simp; omega
          have hP2 : (0 : Int) < (Pn : Int) := by omega
          obtain rfl : q = true := hq.2 (by omega)
          clear hq hv hP
          go_enter Tryz.func132, Tryz.ntmps132
          go_wp2
          go_ret
          exact ⟨by first | rfl | simp, HW1.out _⟩
      · have hv' : (v != 0) = true := by simp [hv]
        obtain rfl : q = true := hq.2 (by omega)
        clear hq hv
        go_enter Tryz.func132, Tryz.ntmps132
        go_wp2
        go_ret
        exact ⟨by first | rfl | simp, HW1.out _⟩
    · by_cases k4 : k = 4
      · subst k4
        clear k2 k3
        by_cases hv : v = 0
        · have hv' : (v != 0) = false := by simp [hv]
          by_cases hL : Ln = 0
          · have hL' : decide (0 < Ln) = false := by simp [hL]
            have hL2 : ¬ ((0 : Int) < (Ln : Int)) := by omega
            obtain rfl : q = false := by
              cases q
              · rfl
              · exact absurd (hq.1 rfl) (by omega)
            clear hq hv hL
            go_enter Tryz.func132, Tryz.ntmps132
            go_wp2
            go_ret
            exact ⟨by first | rfl | simp, HW1.out _⟩
          · have hL' : decide (0 < Ln) = true := by simp; omega
            have hL2 : (0 : Int) < (Ln : Int) := by omega
            obtain rfl : q = true := hq.2 (by omega)
            clear hq hv hL
            go_enter Tryz.func132, Tryz.ntmps132
            go_wp2
            go_ret
            exact ⟨by first | rfl | simp, HW1.out _⟩
        · have hv' : (v != 0) = true := by simp [hv]
          obtain rfl : q = true := hq.2 (by omega)
          clear hq hv
          go_enter Tryz.func132, Tryz.ntmps132
          go_wp2
          go_ret
          exact ⟨by first | rfl | simp, HW1.out _⟩
      · have f2 : (k != 2) = true := by simpa using k2
        have f3 : (k != 3) = true := by simpa using k3
        have f4 : (k != 4) = true := by simpa using k4
        by_cases hv : v = 0
        · have hv' : (v != 0) = false := by simp [hv]
          by_cases hL : Ln = 0
          · have hL' : decide (0 < Ln) = false := by simp [hL]
            have hL2 : ¬ ((0 : Int) < (Ln : Int)) := by omega
            by_cases hP : Pn = 0
            · have hP' : decide (0 < Pn) = false := by simp [hP]
              have hP2 : ¬ ((0 : Int) < (Pn : Int)) := by omega
              obtain rfl : q = false := by
                cases q
                · rfl
                · exact absurd (hq.1 rfl) (by omega)
              clear hq k2 k3 k4 hv hL hP
              go_enter Tryz.func132, Tryz.ntmps132
              go_wp2
              go_ret
              exact ⟨by first | rfl | simp, HW1.out _⟩
            · have hP' : decide (0 < Pn) = true := by simp; omega
              have hP2 : (0 : Int) < (Pn : Int) := by omega
              obtain rfl : q = true := hq.2 (by omega)
              clear hq k2 k3 k4 hv hL hP
              go_enter Tryz.func132, Tryz.ntmps132
              go_wp2
              go_ret
              exact ⟨by first | rfl | simp, HW1.out _⟩
          · have hL' : decide (0 < Ln) = true := by simp; omega
            have hL2 : (0 : Int) < (Ln : Int) := by omega
            obtain rfl : q = true := hq.2 (by omega)
            clear hq k2 k3 k4 hv hL
            go_enter Tryz.func132, Tryz.ntmps132
            go_wp2
            go_ret
            exact ⟨by first | rfl | simp, HW1.out _⟩
        · have hv' : (v != 0) = true := by simp [hv]
          obtain rfl : q = true := hq.2 (by omega)
          clear hq k2 k3 k4 hv
          go_enter Tryz.func132, Tryz.ntmps132
          go_wp2
          go_ret
          exact ⟨by first | rfl | simp, HW1.out _⟩
end Go.Proofs.YtadjoiahllekdaaGreatDoor.num
namespace Go.Proofs.YtadjoiahllekdaaGreatDoor.num
set_option maxRecDepth 20000
open Go.RowKit

def nearI (b : Int) : Value := .iface 163 (.agg #[.int .i64 b])
def amongI (A : Option Addr) (n c : Nat) : Value := .iface 165 (.agg #[.slice A n c])
def orderI (o : Option Nat) : Value := .iface 167 (.agg #[.map o])
end Go.Proofs.YtadjoiahllekdaaGreatDoor.num
namespace Go.Proofs.YtadjoiahllekdaaGreatDoor.num
set_option maxRecDepth 20000
open Go.RowKit Go.Maps
set_option linter.unusedVariables false

/-- v is the taste of the valid wish t. -/
def TasteAt (w : World) (t : Wi) (v : Value) : Prop :=
  (t.kind ≠ 4 ∧ ∃ b, InR b ∧ v = nearI b ∧ ∀ x, InR x → rankW t.dat x = if x < b then b - x else x - b) ∨
  (t.kind ≠ 4 ∧ v = amongI t.LA t.Ln t.Lc ∧ ∀ x, rankW t.dat x = if x ∈ t.ls then 0 else 1) ∨
  (t.kind = 4 ∧ ∃ o B, v = orderI o ∧ AboveP t.ps B true o w)
theorem TasteAt.below {w w' : World} {t : Wi} {v : Value} (h : TasteAt w t v) (hb : Below w.heap.size w w') : TasteAt w' t v := by
  rcases h with h | h | ⟨h, o, B, e, a⟩
  · exact .inl h
  · exact .inr (.inl h)
  · exact .inr (.inr ⟨h, o, B, e, a.below hb⟩)
theorem value_same (v : Int) (q : Bool) (hq : q = true ↔ InR v) (w : World) :
    Calls Tryz.prog 129 #[.int .i64 v] w fun e w' => e = .returned (.bool q) ∧ w' = w :=
  (isValue_of v q hq w).mono fun _ _ h => ⟨h.1, h.2.symm⟩

/-- .. and what it holds lies from block lo on. -/
def TasteFrom (w : World) (lo : Nat) (t : Wi) (v : Value) : Prop :=
  (t.kind ≠ 4 ∧ ∃ b, InR b ∧ v = nearI b ∧ ∀ x, InR x → rankW t.dat x = if x < b then b - x else x - b) ∨
  (t.kind ≠ 4 ∧ v = amongI t.LA t.Ln t.Lc ∧ ∀ x, rankW t.dat x = if x ∈ t.ls then 0 else 1) ∨
  (t.kind = 4 ∧ ∃ o B, lo ≤ B ∧ v = orderI o ∧ AboveP t.ps B true o w)
theorem TasteFrom.at' {w : World} {lo : Nat} {t : Wi} {v : Value} (h : TasteFrom w lo t v) : TasteAt w t v := by
  rcases h with h | h | ⟨h, o, B, _, e, a⟩
  · exact .inl h
  · exact .inr (.inl h)
  · exact .inr (.inr ⟨h, o, B, e, a⟩)
theorem TasteFrom.low {w : World} {lo lo' : Nat} {t : Wi} {v : Value} (h : TasteFrom w lo t v) (hl : lo' ≤ lo) : TasteFrom w lo' t v := by
  rcases h with h | h | ⟨h, o, B, hB, e, a⟩
  · exact .inl h
  · exact .inr (.inl h)
  · exact .inr (.inr ⟨h, o, B, Nat.le_trans hl hB, e, a⟩)
theorem AboveP.kept {ps : List (Int × Int)} {B : Nat} {q : Bool} {o : Option Nat} {w w' : World} (h : AboveP ps B q o w) (hb : ∀ k, B ≤ k → k < w.heap.size → w'.heap[k]? = w.heap[k]?) : AboveP ps B q o w' :=
  ⟨h.1, fun hq => by
    obtain ⟨b, n, M, h1, h2, h3⟩ := h.2 hq
    exact ⟨b, n, M, h1, h2, MapAt.block h3.out (hb _ h3.low (MapAt.lt h3.out)), h3.low, h3.has, h3.rng, fun v x hx => by
      obtain ⟨g1, g2, g3⟩ := h3.sets v x hx
      exact ⟨g1, g2, MapAt.block g3 (hb _ g1 (MapAt.lt g3))⟩, h3.inj⟩⟩
theorem TasteFrom.kept {w w' : World} {lo : Nat} {t : Wi} {v : Value} (h : TasteFrom w lo t v) (hb : ∀ k, lo ≤ k → k < w.heap.size → w'.heap[k]? = w.heap[k]?) : TasteFrom w' lo t v := by
  rcases h with h | h | ⟨h, o, B, hB, e, a⟩
  · exact .inl h
  · exact .inr (.inl h)
  · exact .inr (.inr ⟨h, o, B, hB, e, a.kept fun k hk => hb k (Nat.le_trans hB hk)⟩)
/-- An interface's value. -/
def IfV (v : Value) : Prop := v = .nilIface ∨ ∃ T x, v = .iface T x
set_option maxRecDepth 20000 in
set_option maxHeartbeats 1600000 in
theorem taste_ofV (w : World) (B : Nat) (t : Wi) (hi : WiIn w B t) (hB : B ≤ w.heap.size) (hn : t.Short) (q : Bool) (hq : q = true ↔ IsW t.dat) :
    Calls Tryz.prog 105 #[t.val] w fun e w' => (∃ v, e = .returned (.tuple #[v, .bool q]) ∧ (q = true → TasteFrom w' w.heap.size t v) ∧ IfV v) ∧ Below w.heap.size w w' := by
  have HO : Hid (∀ (w1 : World) (p : Bool), (p = true ↔ (t.kind ≠ 2 ∧ t.value ≠ 0) ∨ (t.kind ≠ 3 ∧ t.Ln ≠ 0) ∨ (t.kind ≠ 4 ∧ t.Pn ≠ 0)) → Calls Tryz.prog 132 #[t.val] w1 fun e w' => e = .returned (.bool p) ∧ Below w1.heap.size w1 w') := Lib.hid fun w1 p hp => iOther w1 t hn.1 hn.2 p hp
  obtain ⟨k, f, v, LA, Ln, Lc, ls, PA, Pn, Pc, ps⟩ := t
  obtain ⟨-, -, -, hl, hp⟩ := hi
  unfold Wi.val at HO ⊢
  simp only [Wi.dat, Wi.Short] at hl hp hn hq HO ⊢
  have HL := Lib.hid hl
  have HP := Lib.hid hp
  have HQ := Lib.hid hq
  have HN := Lib.hid hn
  have HB1 : Hid (∀ o : Obj, Below B w (w.alloc o)) := Lib.hid fun o => (Below.refl B w).alloc hB _
  have HW1 : Hid (∀ o : Obj, Below w.heap.size w (w.alloc o)) := Lib.hid fun o => (Below.refl _ w).alloc (Nat.le_refl _) _
  have HLn : Hid (ls = [] ↔ Ln = 0) := by
    show _ ↔ _
    rw [← hl.1, List.length_eq_zero_iff]
  have HPn : Hid (ps = [] ↔ Pn = 0) := by
    show _ ↔ _
    rw [← hp.1, List.length_eq_zero_iff]
  clear hl hp hq hn
  have HNo : Hid (¬ IsW ⟨k, f, v, ls, ps⟩ → q = false) := Lib.hid fun h => by
    cases q
    · rfl
    · exact absurd (HQ.out.1 rfl) h
  by_cases f0 : f < 0
  · obtain rfl := HNo.out fun h => by have := h.f.1; dsimp only at this; omega
    go_enter Tryz.func105, Tryz.ntmps105
    go_wp2
    go_ret2
    first | exact ⟨⟨_, rfl, fun h => (by cases h), .inl rfl⟩, HW1.out _⟩ | exact ⟨⟨_, rfl, .inl rfl⟩, HW1.out _⟩
  by_cases f3 : 3 ≤ f
  · obtain rfl := HNo.out fun h => by have := h.f.2; dsimp only at this; omega
    go_enter Tryz.func105, Tryz.ntmps105
    go_wp2
    go_ret2
    first | exact ⟨⟨_, rfl, fun h => (by cases h), .inl rfl⟩, HW1.out _⟩ | exact ⟨⟨_, rfl, .inl rfl⟩, HW1.out _⟩
  have HF : Hid (0 ≤ f ∧ f ≤ 2) := Lib.hid ⟨by omega, by omega⟩
  obtain ⟨p, hp⟩ := bool_of ((k ≠ 2 ∧ v ≠ 0) ∨ (k ≠ 3 ∧ Ln ≠ 0) ∨ (k ≠ 4 ∧ Pn ≠ 0))
  have HPp := Lib.hid hp
  clear hp
  cases p
  · have HK2 : Hid (k ≠ 2 → v = 0) := Lib.hid fun h => by
      by_cases hv : v = 0
      · exact hv
      · have := HPp.out.2 (.inl ⟨h, hv⟩); cases this
    have HK3 : Hid (k ≠ 3 → ls = []) := Lib.hid fun h => by
      by_cases hv : Ln = 0
      · exact HLn.out.2 hv
      · have := HPp.out.2 (.inr (.inl ⟨h, hv⟩)); cases this
    have HK4 : Hid (k ≠ 4 → ps = []) := Lib.hid fun h => by
      by_cases hv : Pn = 0
      · exact HPn.out.2 hv
      · have := HPp.out.2 (.inr (.inr ⟨h, hv⟩)); cases this
    by_cases k0 : k = 0
    · subst k0
      obtain rfl := HQ.out.2 ((isW01 (.inl rfl) HF.out).2 ⟨HK2.out (by decide), HK3.out (by decide), HK4.out (by decide)⟩)
      have HT : Hid (∀ w', TasteFrom w' w.heap.size ⟨0, f, v, LA, Ln, Lc, ls, PA, Pn, Pc, ps⟩ (nearI 0)) := Lib.hid fun w' => .inl ⟨by show (0 : Int) ≠ 4; decide, 0, ⟨by decide, by decide⟩, rfl, fun x hx => by
        have h0 := hx.1
        have h9 := hx.2
        have e : rankW (Wi.dat ⟨0, f, v, LA, Ln, Lc, ls, PA, Pn, Pc, ps⟩) x = x := rfl
        rw [e]
        split <;> omega⟩
      go_enter Tryz.func105, Tryz.ntmps105
      go_wp2_with fail
      refine (HO.out _ false HPp.out).mono ?_
      rintro e w1 ⟨rfl, hb1⟩
      obtain ⟨c0, c1, c2, c3, c4, hg⟩ := box5 hb1
      have HBB := Lib.hid (And.intro ((HW1.out _).trans (hb1.mono (by simp))) ((HB1.out _).trans (hb1.mono (by simp; omega))))
      clear hb1
      go_wp2
      go_ret2
      exact ⟨⟨_, rfl, fun _ => HT.out _, by first | exact .inl rfl | exact .inr ⟨_, _, rfl⟩⟩, HBB.out.1⟩
    · by_cases k1 : k = 1
      · subst k1
        clear k0
        obtain rfl := HQ.out.2 ((isW01 (.inr rfl) HF.out).2 ⟨HK2.out (by decide), HK3.out (by decide), HK4.out (by decide)⟩)
        have HT : Hid (∀ w', TasteFrom w' w.heap.size ⟨1, f, v, LA, Ln, Lc, ls, PA, Pn, Pc, ps⟩ (nearI 9)) := Lib.hid fun w' => .inl ⟨by show (1 : Int) ≠ 4; decide, 9, ⟨by decide, by decide⟩, rfl, fun x hx => by
          have h0 := hx.1
          have h9 := hx.2
          have e : rankW (Wi.dat ⟨1, f, v, LA, Ln, Lc, ls, PA, Pn, Pc, ps⟩) x = 9 - x := rfl
          rw [e]
          split <;> omega⟩
        go_enter Tryz.func105, Tryz.ntmps105
        go_wp2_with fail
        refine (HO.out _ false HPp.out).mono ?_
        rintro e w1 ⟨rfl, hb1⟩
        obtain ⟨c0, c1, c2, c3, c4, hg⟩ := box5 hb1
        have HBB := Lib.hid (And.intro ((HW1.out _).trans (hb1.mono (by simp))) ((HB1.out _).trans (hb1.mono (by simp; omega))))
        clear hb1
        go_wp2
        go_ret2
        exact ⟨⟨_, rfl, fun _ => HT.out _, by first | exact .inl rfl | exact .inr ⟨_, _, rfl⟩⟩, HBB.out.1⟩
      · by_cases k2 : k = 2
        · subst k2
          clear k0 k1
          obtain ⟨qv, hqv⟩ := bool_of (InR v)
          obtain rfl : qv = q := by
            rw [Bool.eq_iff_iff, HQ.out, hqv, isW2 HF.out]
            exact ⟨fun h => ⟨h, HK3.out (by decide), HK4.out (by decide)⟩, fun h => h.1⟩
          have HV := Lib.hid hqv
          clear hqv
          go_enter Tryz.func105, Tryz.ntmps105
          go_wp2_with fail
          refine (HO.out _ false HPp.out).mono ?_
          rintro e w1 ⟨rfl, hb1⟩
          obtain ⟨c0, c1, c2, c3, c4, hg⟩ := box5 hb1
          have HBB := Lib.hid (And.intro ((HW1.out _).trans (hb1.mono (by simp))) ((HB1.out _).trans (hb1.mono (by simp; omega))))
          clear hb1
          go_wp2
          go_quiet ((go_at_call 129; refine Calls.quiet_of_same (value_same v qv HV.out _)))
          go_wp2
          go_ret2
          refine ⟨⟨_, rfl, fun h => .inl ⟨by show (2 : Int) ≠ 4; decide, v, HV.out.1 (by first | exact h | trivial), rfl, fun x hx => rfl⟩, by first | exact .inl rfl | exact .inr ⟨_, _, rfl⟩⟩, below_drewN HBB.out.1 _⟩
        · by_cases k3 : k = 3
          · subst k3
            clear k0 k1 k2
            obtain ⟨ql, hql⟩ := bool_of (Asc ls)
            obtain rfl : ql = q := by
              rw [Bool.eq_iff_iff, HQ.out, hql, isW3 HF.out]
              exact ⟨fun h => ⟨HK2.out (by decide), h, HK4.out (by decide)⟩, fun h => h.2.1⟩
            have HV := Lib.hid hql
            clear hql
            go_enter Tryz.func105, Tryz.ntmps105
            go_wp2_with fail
            refine (HO.out _ false HPp.out).mono ?_
            rintro e w1 ⟨rfl, hb1⟩
            obtain ⟨c0, c1, c2, c3, c4, hg⟩ := box5 hb1
            have HBB := Lib.hid (And.intro ((HW1.out _).trans (hb1.mono (by simp))) ((HB1.out _).trans (hb1.mono (by simp; omega))))
            clear hb1
            go_wp2
            go_quiet ((go_at_call 133; refine Calls.quiet_of_same (iList _ B LA Ln Lc ls (HL.out.below (below_drewN HBB.out.2 _)) HN.out.1 ql HV.out)))
            go_wp2
            go_ret2
            exact ⟨⟨_, rfl, fun h => .inr (.inl ⟨by show (3 : Int) ≠ 4; decide, rfl, fun x => rfl⟩), by first | exact .inl rfl | exact .inr ⟨_, _, rfl⟩⟩, below_drewN HBB.out.1 _⟩
          · by_cases k4 : k = 4
            · subst k4
              clear k0 k1 k2 k3
              have HV : Hid (q = true ↔ OkP ps) := Lib.hid (by
                rw [HQ.out, isW4 HF.out]
                exact ⟨fun h => h.2.2, fun h => ⟨HK2.out (by decide), HK3.out (by decide), h⟩⟩)
              go_enter Tryz.func105, Tryz.ntmps105
              go_wp2_with fail
              refine (HO.out _ false HPp.out).mono ?_
              rintro e w1 ⟨rfl, hb1⟩
              obtain ⟨c0, c1, c2, c3, c4, hg⟩ := box5 hb1
              have HBB := Lib.hid (And.intro ((HW1.out _).trans (hb1.mono (by simp))) ((HB1.out _).trans (hb1.mono (by simp; omega))))
              clear hb1
              go_wp2_with fail
              refine (above_of _ B PA Pn Pc ps (HP.out.below HBB.out.2) (by omega) HN.out.2 q HV.out).mono ?_
              rintro e w2 ⟨⟨o, rfl, hab⟩, hb2⟩
              have HAB := Lib.hid hab
              have HSz := Lib.hid HBB.out.1.size
              have HBC := Lib.hid (HBB.out.1.trans (hb2.mono HBB.out.1.size))
              clear hb2 hab c0 c1 c2 c3 c4
              go_wp2
              go_ret2
              exact ⟨⟨_, rfl, fun h => .inr (.inr ⟨rfl, o, _, HSz.out, rfl, h ▸ HAB.out⟩), by first | exact .inl rfl | exact .inr ⟨_, _, rfl⟩⟩, HBC.out⟩
            · have f0 : (k == 0) = false := by simpa using k0
              have f1 : (k == 1) = false := by simpa using k1
              have f2 : (k == 2) = false := by simpa using k2
              have f3 : (k == 3) = false := by simpa using k3
              have f4 : (k == 4) = false := by simpa using k4
              obtain rfl := HNo.out fun h => by have := h.k; dsimp only at this; omega
              clear k0 k1 k2 k3 k4
              go_enter Tryz.func105, Tryz.ntmps105
              go_wp2_with fail
              refine (HO.out _ false HPp.out).mono ?_
              rintro e w1 ⟨rfl, hb1⟩
              obtain ⟨c0, c1, c2, c3, c4, hg⟩ := box5 hb1
              have HBB := Lib.hid (And.intro ((HW1.out _).trans (hb1.mono (by simp))) ((HB1.out _).trans (hb1.mono (by simp; omega))))
              clear hb1
              go_wp2
              go_ret2
              first | exact ⟨⟨_, rfl, fun h => (by cases h), .inl rfl⟩, HBB.out.1⟩ | exact ⟨⟨_, rfl, .inl rfl⟩, HBB.out.1⟩
  · obtain rfl := HNo.out fun h => by
      have hv := h.v
      have hl := h.l
      have hp := h.p
      dsimp only at hv hl hp
      rcases HPp.out.1 rfl with ⟨h1, h2⟩ | ⟨h1, h2⟩ | ⟨h1, h2⟩
      · rw [if_neg h1] at hv; exact h2 hv
      · rw [if_neg h1] at hl; exact h2 (HLn.out.1 hl)
      · rw [if_neg h1] at hp; exact h2 (HPn.out.1 hp)
    have HPt := Lib.hid (HPp.out.1 rfl)
    clear HPp
    go_enter Tryz.func105, Tryz.ntmps105
    go_wp2_with fail
    refine (HO.out _ true ⟨fun _ => HPt.out, fun _ => rfl⟩).mono ?_
    rintro e w1 ⟨rfl, hb1⟩
    have HBB := Lib.hid ((HW1.out _).trans (hb1.mono (by simp)))
    clear hb1
    go_wp2
    go_ret2
    first | exact ⟨⟨_, rfl, fun h => (by cases h), .inl rfl⟩, HBB.out⟩ | exact ⟨⟨_, rfl, .inl rfl⟩, HBB.out⟩
theorem taste_of (w : World) (B : Nat) (t : Wi) (hi : WiIn w B t) (hB : B ≤ w.heap.size) (hn : t.Short) (q : Bool) (hq : q = true ↔ IsW t.dat) :
    Calls Tryz.prog 105 #[t.val] w fun e w' => (∃ v, e = .returned (.tuple #[v, .bool q]) ∧ (q = true → TasteAt w' t v)) ∧ Below w.heap.size w w' :=
  (taste_ofV w B t hi hB hn q hq).mono fun _ _ ⟨⟨v, h1, h2, _⟩, h3⟩ => ⟨⟨v, h1, fun h => (h2 h).at'⟩, h3⟩
end Go.Proofs.YtadjoiahllekdaaGreatDoor.num
namespace Go.Proofs.YtadjoiahllekdaaGreatDoor.num
set_option maxRecDepth 20000
open Go.RowKit Go.Maps
set_option linter.unusedVariables false

set_option maxRecDepth 20000 in
theorem iIsWish (w : World) (B : Nat) (t : Wi) (hi : WiIn w B t) (hB : B ≤ w.heap.size) (hn : t.Short) (q : Bool) (hq : q = true ↔ IsW t.dat) :
    Calls Tryz.prog 63 #[t.val] w fun e w' => e = .returned (.bool q) ∧ Below w.heap.size w w' := by
  have HI := Lib.hid hi
  have HS := Lib.hid (fun (w1 : World) h1 h2 => taste_of w1 B t h1 h2 hn q hq)
  clear hi hq
  obtain ⟨k, f, v, LA, Ln, Lc, ls, PA, Pn, Pc, ps⟩ := t
  unfold Wi.val at HS ⊢
  go_enter Tryz.func63, Tryz.ntmps63
  go_wp2_with fail
  first
    | refine (HS.out _ HI.out hB).mono ?_
    | refine (HS.out _ (HI.out.below ((Below.refl B w).alloc hB _)) (by simp; omega)).mono ?_
  rintro e w1 ⟨⟨tv, rfl, -⟩, hb1⟩
  go_wp2
  go_ret
  first
    | exact ⟨rfl, hb1⟩
    | exact ⟨rfl, ((Below.refl _ w).alloc (Nat.le_refl _) _).trans (hb1.mono (by simp))⟩

end Go.Proofs.YtadjoiahllekdaaGreatDoor.num
namespace Go.Proofs.YtadjoiahllekdaaGreatDoor.num
set_option maxRecDepth 20000
open Go.RowKit

theorem digit_of (r : Int) (b : Bool) (hb : b = true ↔ 48 ≤ r ∧ r ≤ 57) (w : World) :
    Calls Tryz.prog 99 #[.int .i32 r] w fun e w' => e = .returned (.bool b) ∧ w = w' := by
  obtain rfl : b = (decide (48 ≤ r) && decide (r ≤ 57)) := by rw [Bool.eq_iff_iff]; simpa using hb
  clear hb
  by_cases h1 : 48 ≤ r
  · go_enter Tryz.func99, Tryz.ntmps99
    go_wp2
    go_ret
    exact ⟨by simp [h1], rfl⟩
  · go_enter Tryz.func99, Tryz.ntmps99
    go_wp2
    go_ret
    exact ⟨by simp; omega, rfl⟩
theorem cut_dash (s : ByteArray) (w : World) :
    Calls Tryz.prog 98 #[.string s, .string ⟨#[45]⟩] w fun e w' => e = .returned (.tuple #[.string ⟨(dgs s.data.toList).toArray⟩, .bool (dash s.data.toList)]) ∧ w = w' :=
  (Tryz.strings_CutPrefix s ⟨#[45]⟩ w).mono fun e w' ⟨he, hw⟩ => by
    refine ⟨?_, hw.symm⟩
    rw [he]
    show Ending.returned (.tuple #[.string ⟨(Lib.trimPrefix s.data.toList [45]).toArray⟩, .bool (Lib.hasPrefix s.data.toList [45])]) = _
    rw [hasDash, trimDash]
theorem decode_hi (s : ByteArray) (pos : Nat) (h : pos < s.size) (hb : 128 ≤ (s[pos]).toNat) : 128 ≤ (Utf8.decode s pos).1 := by
  have e : s.get! pos = s[pos]'h := by simp [ByteArray.get!, getElem!_pos, h]; rfl
  rw [Lib.decode_at, e]
  unfold Lib.decodeN
  rw [if_neg (by omega)]
  repeat' split
  all_goals first | assumption | (simp only; omega) | decide
theorem isD_at (t : ByteArray) (pos : Nat) (h : pos < t.size) (hb : isD t[pos] = false) (l : List UInt8) (hl : t.data.toList = l) : ¬ l.all isD = true := by
  subst hl
  intro ha
  have hm : t[pos] ∈ t.data.toList := by simp; exact Array.getElem_mem (xs := t.data) h
  have := List.all_eq_true.1 ha _ hm
  rw [hb] at this; cases this
theorem eq_text (m : Int) (s : ByteArray) (b : Bool) (hb : b = true ↔ Lib.itoa m = s.data.toList) : ((fmtB m).toList == s.toList) = b := by
  rw [ByteArray.toList_eq, ByteArray.toList_eq, Bool.eq_iff_iff, beq_iff_eq, hb]; rfl

set_option maxRecDepth 20000 in
set_option maxHeartbeats 400000 in
theorem iParse (s : ByteArray) (_hs : s.size ≤ 1048576) (w : World) (hpow : Pow w) :
    Calls Tryz.prog 49 #[.string s] w fun e w' => e = .returned (.tuple #[.int .i64 (pVal s.data.toList), .bool (pOk s.data.toList)]) ∧ Below w.heap.size w w' := by
  have HP := Lib.hid hpow
  clear hpow
  go_enter Tryz.func49, Tryz.ntmps49
  go_wp2_with fail
  refine (cut_dash s _).mono ?_
  rintro e w1 ⟨rfl, rfl⟩
  generalize ht : (⟨(dgs s.data.toList).toArray⟩ : ByteArray) = t
  have HT : Hid (t.data.toList = dgs s.data.toList) := by subst ht; show _ = _; rfl
  clear ht
  by_cases hlen : t.size ≤ 9
  · generalize hd : dash s.data.toList = d
    have HD := Lib.hid hd
    clear hd
    go_wp2
    go_loopw [6] (fun v wr => ∃ pos m : Nat, pos ≤ t.size ∧ v = .int .i64 m ∧ m ≤ 999999999 ∧ Hid (m = scanV (t.data.toList.take pos)) ∧ Hid ((t.data.toList.take pos).all isD = true) ∧ wr.heap[w.heap.size]? = some (.stringIter t pos) ∧ Below w.heap.size w wr) (fun _ wr => t.size - wr.iterPos w.heap.size)
    case atStart => exact ⟨0, 0, Nat.zero_le _, rfl, by omega, rfl, rfl, World.iter_heap w t 0, (Below.refl _ _).alloc (Nat.le_refl _) _⟩
    case round =>
      obtain ⟨pos, m, hp, rfl, hm, HM, HA, hit, hbel⟩ := hrel
      have HI := Lib.hid hit
      by_cases hlt : pos < t.size
      · by_cases hlow : (t[pos]).toNat < 128
        · have hnext := fun ty => Lib.run_next_ascii_at (P := Tryz.prog) wr w.heap.size t pos ty hit hlt hlow
          clear hit
          have hbel1 := Lib.below_iterAt hbel (Nat.le_refl _) t (pos + 1)
          cases hx : isD t[pos]
          · have HU := Lib.hid (pOk_p1 s.data.toList (fun h => isD_at t pos hlt hx _ HT.out h.2))
            have hnd : ¬ (48 ≤ t[pos].toNat ∧ t[pos].toNat ≤ 57) := of_decide_eq_false hx
            have HX := Lib.hid hx
            clear hx hbel
            go_wp2_with fail
            refine (digit_of _ false (by simp; omega) _).mono ?_
            rintro e wa ⟨rfl, rfl⟩
            go_wp2
            go_ret2
            refine ⟨?_, hbel1⟩
            rw [HU.out.1, HU.out.2]; rfl
          · have hdi : 48 ≤ t[pos].toNat ∧ t[pos].toNat ≤ 57 := of_decide_eq_true hx
            obtain ⟨hd1, hd2⟩ := hdi
            have hstep : scanV (t.data.toList.take (pos + 1)) = 10 * m + (t[pos].toNat - 48) := by
              rw [take_snoc t pos hlt, scanV_snoc, ← HM.out, dstep, hx]; rfl
            have hle := scanV_le9 (t.data.toList.take (pos + 1)) (by have := List.length_take_le (pos + 1) t.data.toList; omega)
            have hm2 : 10 * m + (t[pos].toNat - 48) ≤ 999999999 := by rw [← hstep]; exact hle
            have HS := Lib.hid hstep
            have hall : (t.data.toList.take (pos + 1)).all isD = true := by rw [take_snoc t pos hlt, List.all_append, HA.out]; simp [hx]
            have HA2 := Lib.hid hall
            have HX := Lib.hid hx
            have HPos : Hid (wr.iterPos w.heap.size = pos) := by show _ = _; simp [World.iterPos, HI.out]
            have HT1 := Lib.hid (Lib.iterAt_heap wr _ _ pos (pos + 1) HI.out)
            clear hx hbel hstep hle hall
            go_wp2_with fail
            refine (digit_of _ true (by simp; omega) _).mono ?_
            rintro e wa ⟨rfl, rfl⟩
            go_wp2
            go_roundw
            case rel => exact ⟨pos + 1, 10 * m + (t[pos].toNat - 48), by omega, by go_num, hm2, HS.out.symm, HA2.out, HT1.out, hbel1⟩
            case measure =>
              have h2 := HPos.out
              have h3 : (wr.iterAt w.heap.size t (pos + 1)).iterPos w.heap.size = pos + 1 := by simp [World.iterPos, HT1.out]
              omega
        · have hnext := fun ty => Lib.run_next_any_at (P := Tryz.prog) wr w.heap.size t pos ty hit hlt
          have hd := decode_hi t pos hlt (by omega)
          have HU := Lib.hid (pOk_p1 s.data.toList (fun h => isD_at t pos hlt (by simp [isD]; omega) _ HT.out h.2))
          have hbel1 := Lib.below_iterAt hbel (Nat.le_refl _) t (pos + (Utf8.decode t pos).2)
          clear hit hbel
          go_wp2_with fail
          refine (digit_of _ false (by simp; omega) _).mono ?_
          rintro e wa ⟨rfl, rfl⟩
          go_wp2
          go_ret2
          refine ⟨?_, hbel1⟩
          rw [HU.out.1, HU.out.2]; rfl
      · have hnext := fun ty => Lib.run_next_end_at (P := Tryz.prog) wr w.heap.size t pos ty hit hlt
        clear hit
        obtain rfl : pos = t.size := by omega
        have hfull : t.data.toList.take t.size = t.data.toList := List.take_of_length_le (by rw [Array.length_toList]; exact Nat.le_refl _)
        have HM2 : Hid (m = scanV (dgs s.data.toList)) := by show _ = _; rw [HM.out, hfull, HT.out]
        have HA2 : Hid ((dgs s.data.toList).all isD = true) := by have := HA.out; rw [hfull, HT.out] at this; exact this
        have HL2 : Hid ((dgs s.data.toList).length ≤ 9) := by show _ ≤ _; rw [← HT.out, Array.length_toList]; exact hlen
        clear hfull
        cases d
        · have hsg : signed s.data.toList (scanV (dgs s.data.toList)) = (m : Int) := by unfold signed; rw [HD.out, ← HM2.out]; rfl
          by_cases hb : Lib.itoa ((m : Int)) = s.data.toList
          · have hq := eq_text ((m : Int)) s true (by simp [hb])
            have HU := Lib.hid (pOk_p2 s.data.toList HL2.out HA2.out true (by rw [hsg]; simp [hb]))
            have HG := Lib.hid hsg
            clear hb hsg
            go_wp2_with fail
            refine (iFormat ((m : Int)) (by omega) (by omega) _ (HP.out.below hbel)).mono ?_
            rintro e wb ⟨rfl, hb1⟩
            go_wp2
            go_ret2
            refine ⟨?_, hbel.trans (hb1.mono hbel.size)⟩
            rw [HU.out.1, HU.out.2, HG.out]; rfl
          · have hq := eq_text ((m : Int)) s false (by simp [hb])
            have HU := Lib.hid (pOk_p2 s.data.toList HL2.out HA2.out false (by rw [hsg]; simp [hb]))
            have HG := Lib.hid hsg
            clear hb hsg
            go_wp2_with fail
            refine (iFormat ((m : Int)) (by omega) (by omega) _ (HP.out.below hbel)).mono ?_
            rintro e wb ⟨rfl, hb1⟩
            go_wp2
            go_ret2
            refine ⟨?_, hbel.trans (hb1.mono hbel.size)⟩
            rw [HU.out.1, HU.out.2]; rfl
        · have hsg : signed s.data.toList (scanV (dgs s.data.toList)) = -(m : Int) := by unfold signed; rw [HD.out, ← HM2.out]; rfl
          by_cases hb : Lib.itoa (-(m : Int)) = s.data.toList
          · have hq := eq_text (-(m : Int)) s true (by simp [hb])
            have HU := Lib.hid (pOk_p2 s.data.toList HL2.out HA2.out true (by rw [hsg]; simp [hb]))
            have HG := Lib.hid hsg
            clear hb hsg
            go_wp2_with fail
            refine (iFormat (-(m : Int)) (by omega) (by omega) _ (HP.out.below hbel)).mono ?_
            rintro e wb ⟨rfl, hb1⟩
            go_wp2
            go_ret2
            refine ⟨?_, hbel.trans (hb1.mono hbel.size)⟩
            rw [HU.out.1, HU.out.2, HG.out]; rfl
          · have hq := eq_text (-(m : Int)) s false (by simp [hb])
            have HU := Lib.hid (pOk_p2 s.data.toList HL2.out HA2.out false (by rw [hsg]; simp [hb]))
            have HG := Lib.hid hsg
            clear hb hsg
            go_wp2_with fail
            refine (iFormat (-(m : Int)) (by omega) (by omega) _ (HP.out.below hbel)).mono ?_
            rintro e wb ⟨rfl, hb1⟩
            go_wp2
            go_ret2
            refine ⟨?_, hbel.trans (hb1.mono hbel.size)⟩
            rw [HU.out.1, HU.out.2]; rfl
  · have HU := Lib.hid (pOk_p1 s.data.toList (fun h => hlen (by have := h.1; rw [← HT.out, Array.length_toList] at this; exact this)))
    go_wp2
    go_ret2
    refine ⟨?_, Below.refl _ _⟩
    rw [HU.out.1, HU.out.2]; rfl
end Go.Proofs.YtadjoiahllekdaaGreatDoor.num
namespace Go.Proofs.YtadjoiahllekdaaGreatDoor.num
set_option maxRecDepth 20000
open Go.RowKit

theorem dash_at (s : ByteArray) (h : 0 < s.size) : ((s[0].toNat : Int) == 45) = dash s.data.toList := by
  obtain ⟨⟨l⟩⟩ := s
  cases l with
  | nil => exact absurd h (by show ¬ 0 < 0; omega)
  | cons b l =>
    show (((b.toNat : Int)) == 45) = (some b == some 45)
    by_cases hb : b = 45
    · subst hb; rfl
    · have h1 : ((b.toNat : Int) == 45) = false := by
        rw [beq_eq_false_iff_ne]
        intro e
        exact hb (UInt8.toNat_inj.1 (by show b.toNat = 45; omega))
      have h2 : (some b == some (45 : UInt8)) = false := by
        rw [beq_eq_false_iff_ne]
        intro e
        injection e with e
        exact hb e
      rw [h1, h2]
theorem dash_nil (s : ByteArray) (h : s.size = 0) : dash s.data.toList = false := by
  have : s.data.toList = [] := List.eq_nil_of_length_eq_zero (by rw [Array.length_toList]; exact h)
  rw [this]; rfl
theorem len_le (s : ByteArray) (h : s.size ≤ 10) : s.data.toList.length ≤ 10 := by rw [Array.length_toList]; exact h

set_option maxRecDepth 20000 in
set_option maxHeartbeats 800000 in
theorem sParse (s : ByteArray) (hs : s.size ≤ 1048576) (w : World) :
    Calls Tryz.prog 157 #[.string s] w fun e w' => e = .returned (.tuple #[.int .i64 (pVal s.data.toList), .bool (pOk s.data.toList)]) ∧ Below w.heap.size w w' := by
  go_enter Tryz.func157, Tryz.ntmps157
  go_wp2
  go_loop [4, 5, 6] (fun v cn i => ∃ k m c : Nat, k ≤ 11 ∧ k ≤ s.size ∧ i = .int .i64 k ∧ v = .int .i64 m ∧ cn = .int .i64 c ∧ m ≤ 99999999999 ∧ c ≤ 11 ∧ Hid (m = scanV (s.data.toList.take k)) ∧ Hid (c = scanK (s.data.toList.take k))) (fun _ _ i => 11 - (intOf i).toNat)
  case atStart => exact ⟨0, 0, 0, Nat.zero_le _, Nat.zero_le _, rfl, rfl, rfl, by omega, by omega, rfl, rfl⟩
  case round =>
    obtain ⟨k, m, c, hk11, hks, rfl, rfl, rfl, hm, hc, HM, HC⟩ := hrel
    by_cases hlt : k < 11 ∧ k < s.size
    · obtain ⟨hk, hl⟩ := hlt
      have hd : decide ((k : Int) < 11) = true := by simp; omega
      have hl1 := List.length_take_le (k + 1) s.data.toList
      have hs1 := scanV_le12 (s.data.toList.take (k + 1)) (by omega)
      have hs2 := scanK_le (s.data.toList.take (k + 1))
      have hc2 : scanK (s.data.toList.take (k + 1)) ≤ 11 := by omega
      have e1 := scanV_snoc (s.data.toList.take k) s[k]
      have e2 := scanK_snoc (s.data.toList.take k) s[k]
      rw [← take_snoc s k hl, ← HM.out] at e1
      rw [← take_snoc s k hl, ← HC.out] at e2
      rw [e1] at hs1
      rw [e2] at hc2
      cases hx : isD s[k]
      · have HX : Hid (dstep m s[k] = m) := by show _ = _; rw [dstep, hx]; rfl
        have hnd : ¬ (48 ≤ s[k].toNat ∧ s[k].toNat ≤ 57) := of_decide_eq_false hx
        have E1 := Lib.hid e1
        have E2 : Hid (scanK (s.data.toList.take (k + 1)) = c) := by show _ = _; rw [e2, hx]; rfl
        clear e1 e2 hx hs1 hc2 hs2 hl1
        by_cases h48 : 48 ≤ s[k].toNat
        · have h57 : 57 < s[k].toNat := by omega
          clear hnd
          go_wp2
          go_round
          case rel => exact ⟨k + 1, m, c, by omega, by omega, by go_num, rfl, rfl, hm, hc, by show _ = _; rw [E1.out, HX.out], E2.out.symm⟩
          case measure => simp [intOf]; omega
        · clear hnd
          go_wp2
          go_round
          case rel => exact ⟨k + 1, m, c, by omega, by omega, by go_num, rfl, rfl, hm, hc, by show _ = _; rw [E1.out, HX.out], E2.out.symm⟩
          case measure => simp [intOf]; omega
      · have hdi : 48 ≤ s[k].toNat ∧ s[k].toNat ≤ 57 := of_decide_eq_true hx
        obtain ⟨hd1, hd2⟩ := hdi
        have e3 : dstep m s[k] = 10 * m + (s[k].toNat - 48) := by rw [dstep, hx]; rfl
        rw [e3] at hs1 e1
        have E1 := Lib.hid e1
        have e4 : scanK (s.data.toList.take (k + 1)) = c + 1 := by rw [e2, hx]; rfl
        have hcc : c + 1 ≤ 11 := by rw [← e4]; omega
        have E2 := Lib.hid e4
        clear e1 e2 e3 e4 hx hc2 hs2 hl1
        go_wp2
        go_round
        case rel => exact ⟨k + 1, 10 * m + (s[k].toNat - 48), c + 1, by omega, by omega, by go_num, by go_num, by go_num, hs1, hcc, E1.out.symm, E2.out.symm⟩
        case measure => simp [intOf]; omega
    · by_cases hbig : 10 < s.size
      · have HU := Lib.hid (pOk_long s.data.toList (by rw [Array.length_toList]; exact hbig))
        have hpos : 0 < s.size := by omega
        have h45 := dash_at s hpos
        generalize dash s.data.toList = d at h45
        by_cases hc9 : 9 < c
        · cases d
          all_goals
            go_wp2
            all_goals
              go_ret2
              refine ⟨?_, Below.refl _ _⟩
              rw [HU.out.1, HU.out.2]; rfl
        · cases d
          all_goals
            go_wp2
            all_goals
              go_ret2
              refine ⟨?_, Below.refl _ _⟩
              rw [HU.out.1, HU.out.2]; rfl
      · obtain rfl : k = s.size := by omega
        have hfull : s.data.toList.take s.size = s.data.toList := List.take_of_length_le (by rw [Array.length_toList]; exact Nat.le_refl _)
        have HM2 : Hid (m = scanV s.data.toList) := by show _ = _; rw [HM.out, hfull]
        have HC2 : Hid (c = scanK s.data.toList) := by show _ = _; rw [HC.out, hfull]
        clear hfull HM HC
        by_cases hc9 : 9 < c
        · have HU := Lib.hid (pOk_no s.data.toList (fun h => by have := h.2.1; rw [← HC2.out] at this; omega))
          by_cases hz : s.size = 0
          · have hz' : ¬ 0 < s.size := by omega
            clear hz
            go_wp2
            go_ret2
            refine ⟨?_, Below.refl _ _⟩
            rw [HU.out.1, HU.out.2]; rfl
          · have hpos : 0 < s.size := by omega
            have h45 := dash_at s hpos
            generalize dash s.data.toList = d at h45
            clear hz
            cases d
            all_goals
              go_wp2
              go_ret2
              refine ⟨?_, Below.refl _ _⟩
              rw [HU.out.1, HU.out.2]; rfl
        · by_cases hz : s.size = 0
          · have hz' : ¬ 0 < s.size := by omega
            have HD := Lib.hid (dash_nil s hz)
            clear hz
            have hsg : signed s.data.toList (scanV s.data.toList) = (m : Int) := by unfold signed; rw [HD.out, ← HM2.out]; rfl
            by_cases hb : Lib.itoa ((m : Int)) = s.data.toList
            · have hq := eq_text ((m : Int)) s true (by simp [hb])
              have HU := Lib.hid (pOk_model s.data.toList (by rw [← HC2.out]; omega) (by rw [hsg]; exact hb))
              have HG := Lib.hid hsg
              clear hb hsg
              go_wp2_with fail
              refine (sFormat ((m : Int)) (by omega) (by omega) _).mono ?_
              rintro e wb ⟨rfl, hb1⟩
              go_wp2
              go_ret2
              refine ⟨?_, hb1⟩
              rw [HU.out.1, HU.out.2, HG.out]; rfl
            · have hq := eq_text ((m : Int)) s false (by simp [hb])
              have HU := Lib.hid (pOk_no s.data.toList (fun h => hb (by have := h.2.2; rw [hsg] at this; exact this)))
              have HG := Lib.hid hsg
              clear hb hsg
              go_wp2_with fail
              refine (sFormat ((m : Int)) (by omega) (by omega) _).mono ?_
              rintro e wb ⟨rfl, hb1⟩
              go_wp2
              go_ret2
              refine ⟨?_, hb1⟩
              rw [HU.out.1, HU.out.2]; rfl
          · have hpos : 0 < s.size := by omega
            have h45 := dash_at s hpos
            clear hz
            cases hd : dash s.data.toList
            · rw [hd] at h45
              have HD := Lib.hid hd
              clear hd
              have hsg : signed s.data.toList (scanV s.data.toList) = (m : Int) := by unfold signed; rw [HD.out, ← HM2.out]; rfl
              by_cases hb : Lib.itoa ((m : Int)) = s.data.toList
              · have hq := eq_text ((m : Int)) s true (by simp [hb])
                have HU := Lib.hid (pOk_model s.data.toList (by rw [← HC2.out]; omega) (by rw [hsg]; exact hb))
                have HG := Lib.hid hsg
                clear hb hsg
                go_wp2_with fail
                refine (sFormat ((m : Int)) (by omega) (by omega) _).mono ?_
                rintro e wb ⟨rfl, hb1⟩
                go_wp2
                go_ret2
                refine ⟨?_, hb1⟩
                rw [HU.out.1, HU.out.2, HG.out]; rfl
              · have hq := eq_text ((m : Int)) s false (by simp [hb])
                have HU := Lib.hid (pOk_no s.data.toList (fun h => hb (by have := h.2.2; rw [hsg] at this; exact this)))
                have HG := Lib.hid hsg
                clear hb hsg
                go_wp2_with fail
                refine (sFormat ((m : Int)) (by omega) (by omega) _).mono ?_
                rintro e wb ⟨rfl, hb1⟩
                go_wp2
                go_ret2
                refine ⟨?_, hb1⟩
                rw [HU.out.1, HU.out.2]; rfl
            · rw [hd] at h45
              have HD := Lib.hid hd
              clear hd
              have hsg : signed s.data.toList (scanV s.data.toList) = -(m : Int) := by unfold signed; rw [HD.out, ← HM2.out]; rfl
              by_cases hb : Lib.itoa (-(m : Int)) = s.data.toList
              · have hq := eq_text (-(m : Int)) s true (by simp [hb])
                have HU := Lib.hid (pOk_model s.data.toList (by rw [← HC2.out]; omega) (by rw [hsg]; exact hb))
                have HG := Lib.hid hsg
                clear hb hsg
                go_wp2_with fail
                refine (sFormat (-(m : Int)) (by omega) (by omega) _).mono ?_
                rintro e wb ⟨rfl, hb1⟩
                go_wp2
                go_ret2
                refine ⟨?_, hb1⟩
                rw [HU.out.1, HU.out.2, HG.out]; rfl
              · have hq := eq_text (-(m : Int)) s false (by simp [hb])
                have HU := Lib.hid (pOk_no s.data.toList (fun h => hb (by have := h.2.2; rw [hsg] at this; exact this)))
                have HG := Lib.hid hsg
                clear hb hsg
                go_wp2_with fail
                refine (sFormat (-(m : Int)) (by omega) (by omega) _).mono ?_
                rintro e wb ⟨rfl, hb1⟩
                go_wp2
                go_ret2
                refine ⟨?_, hb1⟩
                rw [HU.out.1, HU.out.2]; rfl
end Go.Proofs.YtadjoiahllekdaaGreatDoor.num
namespace Go.Proofs.YtadjoiahllekdaaGreatDoor.num
set_option maxRecDepth 20000
open Go.RowKit
set_option linter.unusedVariables false

/-- A slice of strings of the call's own. -/
def OwnS (w : World) (B : Nat) (v : Value) (l : List ByteArray) : Prop := w.ownsRow B 9 1 v l.length (l.map Value.string)
theorem OwnS.empty (w : World) (B : Nat) (hB : B ≤ w.heap.size) : OwnS (w.alloc (.cells #[] 9)) B (.slice (some ⟨w.heap.size, 0, none⟩) 0 0) [] :=
  World.ownsRow_made w #[] 0 hB (Nat.zero_le _) (by simp)
/-- A slice of strings that reads as l, below block B. -/
def Strs (w : World) (Lo B : Nat) (A : Option Addr) (n : Nat) (l : List ByteArray) : Prop := l.length = n ∧ ∀ k p, l[k]? = some p → ∃ b off : Nat, A = some ⟨b, off, none⟩ ∧ Lo ≤ b ∧ b < B ∧ w.cell? ⟨b, off + k, none⟩ = some (.string p)
theorem Strs.below {w w' : World} {Lo B : Nat} {A : Option Addr} {n : Nat} {l : List ByteArray} (h : Strs w Lo B A n l) (hb : Below B w w') : Strs w' Lo B A n l :=
  ⟨h.1, fun k p hk => by
    obtain ⟨b, off, ha, hL, hB, hc⟩ := h.2 k p hk
    exact ⟨b, off, ha, hL, hB, (hb.cell (p := ⟨b, off + k, none⟩) hB).trans hc⟩⟩
theorem OwnS.strs {w : World} {B : Nat} {v : Value} {l : List ByteArray} (h : OwnS w B v l) : ∃ A n c, v = .slice A n c ∧ Strs w B w.heap.size A n l := by
  have h0 := h
  rcases h.2 with ⟨rfl, hl⟩ | ⟨g, cap, cur, rfl, hgB, hg, _⟩
  · obtain rfl : l = [] := List.eq_nil_of_length_eq_zero hl
    exact ⟨none, 0, 0, rfl, rfl, fun k p hk => by simp at hk⟩
  · refine ⟨some ⟨g, 0, none⟩, l.length, cap, rfl, rfl, fun k p hk => ⟨g, 0, rfl, hgB, lt_of_block hg, ?_⟩⟩
    have hlt : k < l.length := by
      rcases Nat.lt_or_ge k l.length with h' | h'
      · exact h'
      · rw [List.getElem?_eq_none h'] at hk; cases hk
    rw [Nat.zero_add, World.ownsRow.cellAt h0 k (by omega), List.getElem?_map, hk]; rfl
theorem wp_appS {ops : Array Oper} {rest : List Oper} {o : Oper} {a : Act} {Q : Exit → Act → World → Prop} (w : World) (hgd : o.guard = none) (s x : Operand)
    (ho : o.op = .call { callee := .builtin .append, args := #[s, x], argTypes := #[86, 86] })
    (B : Nat) (v : Value) (l : List ByteArray) (hs : a.eval s = v) (hown : OwnS w B v l) (cs : Array Value) (new : List ByteArray) (hcs : cs = (new.map Value.string).toArray) (n c : Nat) (hn : n = new.length)
    (hx : a.eval x = .slice (some ⟨w.heap.size, 0, none⟩) n c) (hlen : (l.length + new.length) * 16 ≤ 140737488355328) (hB : B ≤ w.heap.size)
    (h : ∀ v' w', OwnS w' B v' (l ++ new) → Below B w w' → wpList Tryz.prog ops Q rest (a.put o.dst v') w') :
    wpList Tryz.prog ops Q (o :: rest) a (w.alloc (.cells cs 9)) := by
  obtain ⟨i0, hi, hz0, hz1, hz2⟩ := info_parts info_string
  subst hcs hn
  refine wpList_append_own _ hgd s x 86 ho B 9 i0 (.string ⟨#[]⟩) 1 16 Tryz.underlying86 hi hz0 hz1 hz2 rfl (by decide) v l.length (l.map Value.string) hs (World.ownsRow.alloc hown _) ⟨w.heap.size, 0, none⟩ new.length c (new.map Value.string) hx (by simp) ?_ ?_ (by unfold maxLen; omega) (by omega) (by simp; omega) ?_
  · intro j u hj
    have e : (⟨w.heap.size, 0, none⟩ : Addr).add j = ⟨w.heap.size, j, none⟩ := by unfold Addr.add; split <;> simp_all
    rw [e, World.cell?_alloc_at _ _ _ _ rfl]
    simpa using hj
  · intro u hu
    obtain ⟨b, _, rfl⟩ := List.mem_map.1 hu
    rfl
  · intro v' w' hown' hg _
    refine h v' w' ?_ (((Below.refl B w).alloc hB _).grown hg (by simp; omega) (fun k hk => ?_))
    · have e : (l ++ new).length = l.length + new.length := by simp
      unfold OwnS
      rw [e, List.map_append]
      exact hown'
    · exact (World.ownsRow.lt hown k hk).1

theorem list_len (s : ByteArray) : s.data.toList.length = s.size := by rw [Array.length_toList]; rfl
theorem one_extract (s : ByteArray) (k : Nat) (h : k < s.size) : (s.extract k (k + 1)).data.toList = [s[k]] := by
  rw [Lib.extract_data]
  have h1 := take_snoc s k h
  have e : s.data.toList[k]? = some s[k] := by
    have : k < s.data.toList.length := by rw [list_len]; exact h
    rw [List.getElem?_eq_getElem this]; simp; rfl
  have h2 : k < s.data.toList.length := by rw [list_len]; exact h
  have e2 : s.data.toList[k] = s[k] := by rw [List.getElem?_eq_getElem h2] at e; exact Option.some.inj e
  first
    | (rw [show k + 1 - k = 1 by omega, List.drop_eq_getElem_cons h2, e2]; rfl)
    | (simp [List.drop_eq_getElem_cons h2, e2])
    | (rw [List.drop_take, show k + 1 - k = 1 by omega, List.drop_eq_getElem_cons h2, e2]; rfl)

set_option maxRecDepth 20000 in
theorem sCut2 (s : ByteArray) (hs : s.size ≤ 1048576) (c : UInt8) (w : World) :
    Calls Tryz.prog 84 #[.string s, .int .u8 (c.toNat : Int)] w fun e w' => (∃ A n cc l, e = .returned (.slice A n cc) ∧ Strs w' w.heap.size w'.heap.size A n l ∧ l.map (·.data.toList) = pieces c s.data.toList) ∧ Below w.heap.size w w' := by
  go_enter Tryz.func84, Tryz.ntmps84
  go_wp2
  go_loopw [5, 6, 7] (fun v p i wr => ∃ (k : Nat) (ps : List ByteArray) (part : ByteArray), k ≤ s.size ∧ i = .int .i64 k ∧ OwnS wr w.heap.size v ps ∧ p = .string part ∧ pieces c (s.data.toList.take k) = ps.map (·.data.toList) ++ [part.data.toList] ∧ Below w.heap.size w wr) (fun _ _ i _ => s.size - (intOf i).toNat)
  case atStart => exact ⟨0, [], ⟨#[]⟩, Nat.zero_le _, rfl, OwnS.empty w _ (Nat.le_refl _), rfl, rfl, (Below.refl _ _).alloc (Nat.le_refl _) _⟩
  case round =>
    obtain ⟨k, ps, part, hk, rfl, hown, rfl, hpc, hbel⟩ := hrel
    have HO := Lib.hid hown
    have HPc := Lib.hid hpc
    have HB := Lib.hid hbel
    have hbnd := pieces_len c (s.data.toList.take k)
    rw [hpc] at hbnd
    simp only [List.map_append, List.map_cons, List.map_nil, List.sum_append, List.sum_cons, List.sum_nil, List.length_append, List.length_cons, List.length_nil, List.length_map] at hbnd
    have htk := List.length_take_le k s.data.toList
    have hpart : part.size ≤ 1048576 := by rw [← list_len part]; omega
    have H4 : Hid ((ps.length + [part].length) * 16 ≤ 140737488355328) := Lib.hid (by simp only [List.length_cons, List.length_nil]; omega)
    clear hown hpc hbnd htk
    by_cases hlt : k < s.size
    · by_cases he : s[k] = c
      · have hq : ((s[k].toNat : Int) == (c.toNat : Int)) = true := by rw [he]; simp
        have HE := Lib.hid he
        clear he hbel
        go_wp2_with (at_builtin; refine wp_appS wr (by rfl) (.tmp 20) (.tmp 22) (by rfl) w.heap.size _ _ (by rfl) HO.out _ [part] (by rfl) 1 1 rfl (by rfl) H4.out HB.out.size ?_)
        intro v1 w2 hown2 hb2
        have HO2 := Lib.hid hown2
        have HB2 := Lib.hid (HB.out.trans hb2)
        clear hown2 hb2
        go_wp2
        go_roundw
        case rel =>
          refine ⟨k + 1, ps ++ [part], ⟨#[]⟩, by omega, by go_num, HO2.out, rfl, ?_, HB2.out⟩
          rw [take_snoc s k hlt, pieces_snoc c _ _ _ _ HPc.out, if_pos HE.out]
          simp
        case measure => simp [intOf]; omega
      · have hq : ((s[k].toNat : Int) == (c.toNat : Int)) = false := by
          rw [beq_eq_false_iff_ne]
          intro h
          exact he (UInt8.toNat_inj.1 (by omega))
        have HE := Lib.hid he
        clear he hbel
        go_wp2
        go_roundw
        case rel =>
          refine ⟨k + 1, ps, part ++ s.extract k (k + 1), by omega, by go_num, HO.out, by first | rfl | go_num, ?_, HB.out⟩
          rw [take_snoc s k hlt, pieces_snoc c _ _ _ _ HPc.out, if_neg HE.out, ← one_extract s k hlt]
          simp
        case measure => simp [intOf]; omega
    · obtain rfl : k = s.size := by omega
      have HPc' : Hid (pieces c s.data.toList = ps.map (·.data.toList) ++ [part.data.toList]) := Lib.hid (by have := HPc.out; rwa [take_all (list_len s)] at this)
      clear hbel
      go_wp2_with (at_builtin; refine wp_appS wr (by rfl) (.tmp 31) (.tmp 33) (by rfl) w.heap.size _ _ (by rfl) HO.out _ [part] (by rfl) 1 1 rfl (by rfl) H4.out HB.out.size ?_)
      intro v1 w2 hown2 hb2
      obtain ⟨A, n, cc, rfl, hst⟩ := hown2.strs
      have HS := Lib.hid hst
      have HB2 := Lib.hid (HB.out.trans hb2)
      clear hown2 hb2 hst
      go_wp2
      go_ret
      exact ⟨⟨A, n, cc, ps ++ [part], rfl, HS.out, by rw [HPc'.out]; simp⟩, HB2.out⟩

theorem sNum (s : ByteArray) (hs : s.size ≤ 1048576) (w : World) :
    Calls Tryz.prog 141 #[.string s] w fun e w' => e = .returned (.int .i64 (numS s.data.toList)) ∧ Below w.heap.size w w' := by
  generalize hv : pVal s.data.toList = v
  generalize ho : pOk s.data.toList = ok
  have HV := Lib.hid hv
  have HO := Lib.hid ho
  have HN : Hid (numS s.data.toList = if ok then v else -100000) := Lib.hid (by unfold numS; rw [ho, hv])
  clear hv ho
  go_enter Tryz.func141, Tryz.ntmps141
  go_wp2_with fail
  refine (sParse s hs w).mono ?_
  rintro e w1 ⟨rfl, hb⟩
  rw [HV.out, HO.out]
  cases ok
  · go_wp2
    go_ret
    exact ⟨by rw [HN.out]; rfl, hb⟩
  · go_wp2
    go_ret
    exact ⟨by rw [HN.out]; rfl, hb⟩
end Go.Proofs.YtadjoiahllekdaaGreatDoor.num
