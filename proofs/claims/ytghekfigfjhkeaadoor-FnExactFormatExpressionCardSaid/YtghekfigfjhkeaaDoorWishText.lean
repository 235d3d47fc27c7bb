/-
  The text of a list of ints, of a wish.
-/
import Derived.Test.YtghekfigfjhkeaaDoorWishKw
import Derived.Test.YtghekfigfjhkeaaDoorWishSpecB
namespace Go.Proofs.YtghekfigfjhkeaaDoor.num
open Go.RowKit
set_option linter.unusedVariables false

def intsT (l : List Int) : List UInt8 := Lib.join (l.map Lib.itoa) [44]
def preI (l : List Int) (k : Nat) : ByteArray := ⟨(intsT (l.take k)).toArray⟩
theorem preI_list (l : List Int) (k : Nat) : (preI l k).data.toList = intsT (l.take k) := rfl
theorem preI_zero (l : List Int) : preI l 0 = ⟨#[]⟩ := rfl
theorem preI_one {l : List Int} {x : Int} (h : l[0]? = some x) : (⟨#[]⟩ : ByteArray) ++ fmtB x = preI l 1 := by
  apply bytes_ext
  rw [preI_list, ptake_at (k := 0) h]
  simp [intsT, Lib.join_one, fmtB, ByteArray.data_append]
theorem preI_step {l : List Int} {k : Nat} {x : Int} (hk : 0 < k) (h : l[k]? = some x) : preI l k ++ ⟨#[44]⟩ ++ fmtB x = preI l (k + 1) := by
  have hlt : k < l.length := (List.getElem?_eq_some_iff.1 h).1
  apply bytes_ext
  rw [preI_list, ptake_at h]
  unfold intsT
  rw [List.map_append, List.map_cons, List.map_nil, join_snoc _ _ _ (by
    intro e
    have := congrArg List.length e
    rw [List.length_map, List.length_take, List.length_nil] at this
    omega)]
  simp [preI, intsT, fmtB, ByteArray.data_append]
theorem intsT_len {l : List Int} (h : ∀ v ∈ l, InR v) : (intsT l).length ≤ 3 * l.length := by
  have h1 := join_le (m := 2) 44 (l.map Lib.itoa) fun x hx => by
    obtain ⟨v, hv, rfl⟩ := List.mem_map.1 hx
    exact itoa_small (h v hv)
  rw [List.length_map] at h1
  unfold intsT
  omega
theorem preI_small {l : List Int} (h : ∀ v ∈ l, InR v) (k : Nat) : (preI l k).size ≤ 3 * k := by
  have h1 := intsT_len (l := l.take k) fun v hv => h v (List.mem_of_mem_take hv)
  have h2 : (preI l k).size = (intsT (l.take k)).length := by simp [preI, ByteArray.size]
  have h3 : (l.take k).length ≤ k := by rw [List.length_take]; omega
  omega
/-- What stands behind the field. -/
def restT (d : WD) : List UInt8 := if d.kind = 2 then 32 :: Lib.itoa d.value else if d.kind = 3 then 32 :: intsT d.ls else if d.kind = 4 then 32 :: pairsT d.ps else []
def wishT (d : WD) : List UInt8 := kwT.getD d.kind.toNat [] ++ 32 :: 102 :: (Lib.itoa d.field ++ restT d)
/-- What FormatWish answers. -/
def fmtW (d : WD) (q : Bool) : ByteArray := if q then ⟨(wishT d).toArray⟩ else ⟨#[]⟩
end Go.Proofs.YtghekfigfjhkeaaDoor.num
