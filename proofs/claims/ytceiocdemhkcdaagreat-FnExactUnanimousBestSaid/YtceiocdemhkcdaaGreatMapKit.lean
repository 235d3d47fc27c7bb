/-
  Maps keyed by an int, told key by key: what the world holds as a function from the key to what its element reads as.
-/
import Derived.Test.YtceiocdemhkcdaaGreatProg
import Derived.WalkKit
import Derived.Lib.Hide
import Derived.Maps.RangeWalk
import Derived.Maps.Ext
import Derived.Laws.IdiomRangeMap
namespace Go.Proofs.YtceiocdemhkcdaaGreat.num
set_option maxRecDepth 20000
open Go.RowKit Go.Maps
set_option linter.unusedVariables false

def kI (v : Int) : Lit := .int .i64 v
theorem kI_inj {u v : Int} (h : kI u = kI v) : u = v := by unfold kI at h; injection h
theorem kI_key (v : Int) : WideAt.IsKeyLit (kI v) := trivial
theorem kI_same (u v : Int) : (kI u).sameKey (kI v) = (u == v) := by
  by_cases h : u = v
  · subst h
    rw [WideAt.sameKey_self (kI_key u)]
    simp
  · rw [sameKey_ne (fun e => h (kI_inj e))]
    simpa using h
/-- D's elements, key by key. -/
def Reads (D : DataW Unit) (f : Int → Option (DataW Unit)) : Prop := ∀ v : Int, (Lit.int .i64 v).wf = true → ∀ z, D.atKey (kI v) z = (f v).getD z
theorem Reads.has {D : DataW Unit} {f : Int → Option (DataW Unit)} (h : Reads D f) {v : Int} (hv : (Lit.int .i64 v).wf = true) : Maps.has D (kI v) = (f v).isSome := by
  cases e : f v with
  | none => exact has_false_of_atKey fun z => by rw [h v hv z, e]; rfl
  | some d => exact has_true_of_atKey fun z => by rw [h v hv z, e]; rfl
theorem Reads.of_at {D : DataW Unit} {f : Int → Option (DataW Unit)} (h : Reads D f) {v : Int} (hv : (Lit.int .i64 v).wf = true) {d : DataW Unit} (hat : ∀ z, D.atKey (kI v) z = d) : f v = some d := by
  cases e : f v with
  | none =>
    have h1 := (h v hv .nil).symm.trans (hat .nil)
    have h2 := (h v hv (.lit (.bool true))).symm.trans (hat _)
    rw [e] at h1 h2
    simp at h1 h2
    rw [← h1] at h2; cases h2
  | some d' =>
    have h1 := (h v hv .nil).symm.trans (hat .nil)
    rw [e] at h1
    simp at h1
    rw [h1]
theorem Reads.congr {D : DataW Unit} {f g : Int → Option (DataW Unit)} (h : Reads D f) (e : ∀ v, (Lit.int .i64 v).wf = true → f v = g v) : Reads D g := fun v hv z => by rw [← e v hv]; exact h v hv z
theorem Reads.put {D : DataW Unit} {f : Int → Option (DataW Unit)} (h : Reads D f) (hm : IsMap D) (v : Int) (d : DataW Unit) : Reads (D.put (kI v) d) (fun x => if x = v then some d else f x) := fun x hx z => by
  by_cases e : x = v
  · subst e
    rw [atKey_put_same hm (kI_key _)]
    show _ = (if x = x then some d else f x).getD z
    rw [if_pos rfl]; rfl
  · rw [atKey_put_other (fun e' => e (kI_inj e'))]
    show _ = (if x = v then some d else f x).getD z
    rw [if_neg e]; exact h x hx z
theorem Reads.del {D : DataW Unit} {f : Int → Option (DataW Unit)} (h : Reads D f) (v : Int) : Reads (D.del (kI v)) (fun x => if x = v then none else f x) := fun x hx z => by
  by_cases e : x = v
  · subst e
    rw [atKey_del_same]
    show _ = (if x = x then none else f x).getD z
    rw [if_pos rfl]; rfl
  · rw [atKey_del_other (fun e' => e (kI_inj e'))]
    show _ = (if x = v then none else f x).getD z
    rw [if_neg e]; exact h x hx z

section
variable {P : Program} {k : TypeId} {R : Value → Option (DataW Unit × List MemPlace)} {w w' : World} {b n : Nat} {f : Int → Option (DataW Unit)}
/-- Block b is a map of at most n entries that holds f. -/
def MapAt (P : Program) (k : TypeId) (R : Value → Option (DataW Unit × List MemPlace)) (w : World) (b n : Nat) (f : Int → Option (DataW Unit)) : Prop := ∃ D, w.ownsMap P k R b n D ∧ Reads D f
theorem MapAt.lt (h : MapAt P k R w b n f) : b < w.heap.size := by obtain ⟨D, h, _⟩ := h; exact h.lt
theorem MapAt.mono (h : MapAt P k R w b n f) {m : Nat} (hm : n ≤ m) : MapAt P k R w b m f := by obtain ⟨D, h, r⟩ := h; exact ⟨D, h.mono hm, r⟩
theorem MapAt.block (h : MapAt P k R w b n f) (hb : w'.heap[b]? = w.heap[b]?) : MapAt P k R w' b n f := by
  obtain ⟨D, ⟨es, clock, h1, h2⟩, r⟩ := h
  exact ⟨D, ⟨es, clock, hb.trans h1, h2⟩, r⟩
theorem MapAt.kept {row : Option Nat} (h : MapAt P k R w b n f) (hg : w.grownBy w' row) (hne : some b ≠ row) : MapAt P k R w' b n f := h.block (hg.block b h.lt hne)
theorem MapAt.alloc (h : MapAt P k R w b n f) (o : Obj) : MapAt P k R (w.alloc o) b n f := h.block (Below.heap_alloc _ _ _ h.lt)
theorem MapAt.congr (h : MapAt P k R w b n f) {g : Int → Option (DataW Unit)} (e : ∀ v, (Lit.int .i64 v).wf = true → f v = g v) : MapAt P k R w b n g := by obtain ⟨D, h, r⟩ := h; exact ⟨D, h, r.congr e⟩
theorem MapAt.made (w : World) : MapAt P k R (w.alloc (.map #[] 0)) w.heap.size 0 (fun _ => none) := ⟨.map [], World.ownsMap_made w P k R, fun _ _ _ => rfl⟩
/-- m[v]. -/
theorem MapAt.look {t e : TypeId} (h : MapAt P k R w b n f) (K : Keyed P k) (hk : P.underlying k = some (.int .i64)) (ht : P.underlying t = some (.map k e)) {z : Value} (hz : (zeroValue e).run P w = .ok z w) {zd : DataW Unit} {zp : List MemPlace} (hzd : R z = some (zd, zp)) {v : Int} (hv : (Lit.int .i64 v).wf = true) :
    ∃ val ps, (Instr.lookup t (.map (some b)) (.int .i64 v) false).run P w = .ok val w ∧ R val = some ((f v).getD zd, ps) := by
  obtain ⟨D, h, r⟩ := h
  obtain ⟨val, ps, h1, h2⟩ := h.lookup K ht hz hzd (kl := kI v) (keyOf_int_mk hk hv)
  exact ⟨val, ps, h1, by rw [h2, r v hv]⟩
/-- len(m) is 0 just where nothing is held. -/
theorem MapAt.len {t e : TypeId} (h : MapAt P k R w b n f) (hk : P.underlying k = some (.int .i64)) (K : Keyed P k) (ht : P.underlying t = some (.map k e)) (ty : TypeId) :
    ∃ m : Nat, (Builtin.len_ #[t] ty #[.map (some b)]).run P w = .ok (.int .i64 m) w ∧ (m = 0 ↔ ∀ v : Int, (Lit.int .i64 v).wf = true → f v = none) := by
  obtain ⟨D, h, r⟩ := h
  refine ⟨Maps.size D, h.len ht ty, ?_⟩
  obtain ⟨es, clock, hb, F, hs, rfl⟩ := h
  constructor
  · intro h0 v hv
    have hn := r.has hv
    have he : (es.toList.map (WideElems.rg P k R)).foldr DataW.insert [] = [] := List.eq_nil_of_length_eq_zero h0
    rw [he] at hn
    cases e : f v
    · rfl
    · rw [e] at hn; cases hn
  · intro hall
    refine Classical.byContradiction fun hne => ?_
    have : es.toList ≠ [] := fun e => hne (by rw [e]; rfl)
    obtain ⟨x, l, hx⟩ := List.exists_cons_of_ne_nil this
    have hxm : x ∈ es.toList := by rw [hx]; simp
    obtain ⟨y, hy⟩ := F.reads x hxm
    have hkey := WideElems.rd_key hy
    obtain ⟨v, _, hkl, hv⟩ := keyOf_int_inv hk hkey
    have h1 := r.has hv
    rw [hall v hv] at h1
    have h2 : Maps.has (.map ((es.toList.map (WideElems.rg P k R)).foldr DataW.insert [])) (kI v) = true := by
      refine List.any_eq_true.2 ⟨WideElems.rg P k R x, mem_sorted.2 (List.mem_map.2 ⟨x, hxm, rfl⟩), ?_⟩
      rw [WideElems.rg_of hy, hkl]
      exact WideAt.sameKey_self (kI_key v)
    rw [h2] at h1
    cases h1
end

section
variable {P : Program} {k : TypeId} {R : Value → Option (DataW Unit × List MemPlace)} (w : World) {b n : Nat} {f : Int → Option (DataW Unit)} {ops : Array Oper} {rest : List Oper} {o : Oper} {a : Act} {Q : Exit → Act → World → Prop}
/-- 'm[v] = x'. -/
theorem wp_put (hg : o.guard = none) (m x y : Operand) (t : TypeId) (hop : o.op = Op.mapUpdate t m x y) {e : TypeId} (K : Keyed P k) (hk : P.underlying k = some (.int .i64)) (ht : P.underlying t = some (.map k e))
    (hm : a.eval m = .map (some b)) (h : MapAt P k R w b n f) (hn : n < maxLen) (v : Int) (hx : a.eval x = .int .i64 v) (hv : (Lit.int .i64 v).wf = true) (val : Value) (hy : a.eval y = val) (d : DataW Unit) (ps : List MemPlace) (hval : R val = some (d, ps))
    (hK : ∀ w', MapAt P k R w' b (n + 1) (fun x => if x = v then some d else f x) → w.grownBy w' (some b) → w'.heap.size = w.heap.size → wpList P ops Q rest (a.put o.dst undef) w') :
    wpList P ops Q (o :: rest) a w := by
  obtain ⟨D, h, r⟩ := h
  refine wpList_mapUpdate_in w hg m x y t hop k e K ht R b n D hm h hn _ val (kI v) hx hy (keyOf_int_mk hk hv) d ps hval fun w' h' ht' => ?_
  refine hK w' ⟨_, h', r.put h.isMap v d⟩ ht'.grown ?_
  obtain ⟨_, _, _, _, _, rfl⟩ := ht'
  simp [Go.ChangeMaps.setBlock]
/-- 'delete(m, v)'. -/
theorem wp_del (hg : o.guard = none) (m x : Operand) (t : TypeId) (hop : o.op = Op.call { callee := Callee.builtin Builtin.delete, args := #[m, x], argTypes := #[t, k] }) {e : TypeId} (K : Keyed P k) (hk : P.underlying k = some (.int .i64)) (ht : P.underlying t = some (.map k e))
    (hm : a.eval m = .map (some b)) (h : MapAt P k R w b n f) (v : Int) (hx : a.eval x = .int .i64 v) (hv : (Lit.int .i64 v).wf = true)
    (hK : ∀ w', MapAt P k R w' b n (fun x => if x = v then none else f x) → w.grownBy w' (some b) → w'.heap.size = w.heap.size → wpList P ops Q rest (a.put o.dst (.tuple #[])) w') :
    wpList P ops Q (o :: rest) a w := by
  obtain ⟨D, h, r⟩ := h
  refine wpList_delete_own w hg m x t k hop e K ht R b n D hm h _ (kI v) hx (keyOf_int_mk hk hv) fun w' h' ht' => ?_
  refine hK w' ⟨_, h', r.del v⟩ ht'.grown ?_
  obtain ⟨_, _, _, _, _, rfl⟩ := ht'
  simp [Go.ChangeMaps.setBlock]

/-- A range over the map is under way: what is still to come, by key. -/
def RangeAt (P : Program) (k : TypeId) (R : Value → Option (DataW Unit × List MemPlace)) (w : World) (b r n : Nat) (f : Int → Option (DataW Unit)) (L : Int → Bool) (cnt : Nat) : Prop :=
  ∃ D left, w.ranges P k R b r n D left cnt ∧ Reads D f ∧ ∀ v, L v = left (kI v)
/-- 'range m'. -/
theorem wp_range (hg : o.guard = none) (m : Operand) (t : TypeId) (hop : o.op = Op.range t m) {e : TypeId} (K : Keyed P k) (ht : P.underlying t = some (.map k e))
    (hm : a.eval m = .map (some b)) (h : MapAt P k R w b n f)
    (hK : ∀ w' L cnt, RangeAt P k R w' b w.heap.size n f L cnt → (∀ v, (Lit.int .i64 v).wf = true → L v = (f v).isSome) → cnt ≤ n → w.grownBy w' none → w'.heap.size = w.heap.size + 1 → wpList P ops Q rest (a.put o.dst (.pointer (some ⟨w.heap.size, 0, none⟩))) w') :
    wpList P ops Q (o :: rest) a w := by
  obtain ⟨D, h, r⟩ := h
  refine wpList_range_own w hg m t hop k e K ht R b n D hm h fun w' h1 h2 h3 => ?_
  exact hK w' (fun v => Maps.has D (kI v)) _ ⟨D, _, h1, r, fun _ => rfl⟩ (fun v hv => r.has hv) h.size_le h2 h3
/-- The step. -/
theorem wp_next {β : Type} {r : Nat} {L : Int → Bool} {cnt : Nat} (hg : o.guard = none) (it : Operand) (hop : o.op = Op.next it false) (K : Keyed P k) (hk : P.underlying k = some (.int .i64)) (mkV : β → Value) (invV : ∀ v y, R v = some y → ∃ c, v = mkV c)
    (hit : a.eval it = .pointer (some ⟨r, 0, none⟩)) (h : RangeAt P k R w b r n f L cnt)
    (hDone : (∀ v, L v = false) → MapAt P k R w b n f → wpList P ops Q rest (a.put o.dst (.tuple #[.bool false])) w)
    (hMore : ∀ (x : Int) (c : β) (w' : World) (cnt' : Nat), (Lit.int .i64 x).wf = true → L x = true → (∃ d ps, R (mkV c) = some (d, ps) ∧ f x = some d) → RangeAt P k R w' b r n f (fun v => L v && !(v == x)) cnt' → cnt' < cnt →
      w.grownBy w' (some r) → w'.heap.size = w.heap.size → (Instr.entry (.pointer (some ⟨r, 0, none⟩))).run P w' = .ok (.tuple #[.int .i64 x, mkV c]) w' → wpList P ops Q rest (a.put o.dst (.tuple #[.bool true, .int .i64 x, mkV c])) w') :
    wpList P ops Q (o :: rest) a w := by
  obtain ⟨D, left, h, rd, hL⟩ := h
  refine wpList_next_ranges w hg it hop k K R (Value.int .i64) mkV (fun key kl hkey => by obtain ⟨x, rfl, _⟩ := keyOf_int_inv hk hkey; exact ⟨x, rfl⟩) invV b r n D left cnt hit h
    (fun _ hl => hDone (fun v => by rw [hL, hl]) ⟨D, h.owns, rd⟩) (fun x c kl y w' cnt' hkey hlk hv hat hrg hlt hgr hsz hen => ?_)
  obtain ⟨x', ex, rfl, hwx⟩ := keyOf_int_inv hk hkey
  cases ex
  exact hMore x c w' cnt' hwx (by rw [hL]; exact hlk) ⟨y.1, y.2, hv, rd.of_at hwx hat⟩ ⟨D, _, hrg, rd, fun v => by show (L v && !(v == x)) = (left (kI v) && !(kI v).sameKey (kI x)); rw [hL, kI_same]⟩ hlt hgr hsz hen
end
theorem RangeAt.kept {P : Program} {k : TypeId} {R : Value → Option (DataW Unit × List MemPlace)} {w w' : World} {b r n : Nat} {f : Int → Option (DataW Unit)} {L : Int → Bool} {cnt : Nat} {row : Option Nat}
    (h : RangeAt P k R w b r n f L cnt) (hg : w.grownBy w' row) (h1 : some b ≠ row) (h2 : some r ≠ row) : RangeAt P k R w' b r n f L cnt := by
  obtain ⟨D, left, h, rest⟩ := h
  exact ⟨D, left, h.kept hg h1 h2, rest⟩
theorem RangeAt.owns {P : Program} {k : TypeId} {R : Value → Option (DataW Unit × List MemPlace)} {w : World} {b r n : Nat} {f : Int → Option (DataW Unit)} {L : Int → Bool} {cnt : Nat} (h : RangeAt P k R w b r n f L cnt) : MapAt P k R w b n f := by
  obtain ⟨D, left, h, rd, _⟩ := h
  exact ⟨D, h.owns, rd⟩
theorem RangeAt.left_eq {P : Program} {k : TypeId} {R : Value → Option (DataW Unit × List MemPlace)} {w : World} {b r n : Nat} {f : Int → Option (DataW Unit)} {L : Int → Bool} {cnt : Nat} (h : RangeAt P k R w b r n f L cnt) : w.rangeLeft b r = cnt := by
  obtain ⟨D, left, h, _⟩ := h
  exact h.left_eq
theorem RangeAt.lt {P : Program} {k : TypeId} {R : Value → Option (DataW Unit × List MemPlace)} {w : World} {b r n : Nat} {f : Int → Option (DataW Unit)} {L : Int → Bool} {cnt : Nat} (h : RangeAt P k R w b r n f L cnt) : r < w.heap.size := by
  obtain ⟨D, left, h, _⟩ := h
  exact h.lt
theorem RangeAt.ne {P : Program} {k : TypeId} {R : Value → Option (DataW Unit × List MemPlace)} {w : World} {b r n : Nat} {f : Int → Option (DataW Unit)} {L : Int → Bool} {cnt : Nat} (h : RangeAt P k R w b r n f L cnt) : r ≠ b := by
  obtain ⟨D, left, h, _⟩ := h
  exact h.ne
end Go.Proofs.YtceiocdemhkcdaaGreat.num
