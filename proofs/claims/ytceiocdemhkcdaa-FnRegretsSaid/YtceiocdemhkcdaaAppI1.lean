/-
  append of one number, and where the row lies behind it.
-/
import Derived.Test.YtceiocdemhkcdaaAppG
import Derived.Test.YtceiocdemhkcdaaOwnInt
namespace Go.Proofs.Ytceiocdemhkcdaa.num
set_option maxRecDepth 20000
open Go.RowKit Go.Maps
set_option linter.unusedVariables false
set_option linter.unusedSimpArgs false

theorem ownI_G {w : World} {B : Nat} {v : Value} {l : List Int} : OwnI w B v l ↔ OwnG 3 (fun x : Int => [Value.int .i64 x]) 1 w B v l := by
  have e : l.flatMap (fun x : Int => [Value.int .i64 x]) = l.map (Value.int .i64) := by
    induction l with
    | nil => rfl
    | cons a r ih => rw [List.flatMap_cons, ih]; rfl
  unfold OwnI OwnG
  rw [e]
/-- append of one int: the new slice lies in the old one's row or in a new block. -/
theorem wp_appI1 {ops : Array Oper} {rest : List Oper} {o : Oper} {a : Act} {Q : Exit → Act → World → Prop} (w : World) (hgd : o.guard = none) (sl x : Operand)
    (ho : o.op = .call { callee := .builtin .append, args := #[sl, x], argTypes := #[25, 25] })
    (B : Nat) (v : Value) (l : List Int) (hs : a.eval sl = v) (hown : OwnI w B v l) (cs : Array Value) (y : Int) (hcs : cs = #[Value.int .i64 y]) (c : Nat)
    (hx : a.eval x = .slice (some ⟨w.heap.size, 0, none⟩) 1 c) (hlen : (l.length + 1) * 8 ≤ 140737488355328) (hB : B ≤ w.heap.size)
    (h : ∀ v' w', OwnI w' B v' (l ++ [y]) → w.grownBy w' v.ownBlock → (v'.ownBlock = v.ownBlock ∨ v'.ownBlock = some (w.heap.size + 1)) → wpList Try.prog ops Q rest (a.put o.dst v') w') :
    wpList Try.prog ops Q (o :: rest) a (w.alloc (.cells cs 3)) :=
  wp_appG (f := fun x : Int => [Value.int .i64 x]) (fun _ => rfl) (fun x u hu => by rw [List.mem_singleton.1 hu]; rfl) (T := 3) (tS := 25) Try.underlying25 info_int rfl (by decide) w hgd sl x ho B v l hs (ownI_G.1 hown) cs y (by rw [hcs]) c _ rfl hx hlen (by decide) hB
    fun v' w' ho hg hat => h v' w' (ownI_G.2 ho) hg hat
end Go.Proofs.Ytceiocdemhkcdaa.num
