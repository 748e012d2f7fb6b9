import Derived.Test.YthjgecdnlpdcdaaM18
import Derived.Carry
/- The program's ip6.headers: the map of its closures. -/
namespace Go.Proofs.Ythjgecdnlpdcdaa
set_option maxRecDepth 100000
open Go.RowKit Go.MapKept
def hopV (a : Addr) : Value := .func (.func 42) #[] #[.pointer (some a)]
def routV (a : Addr) : Value := .func (.func 43) #[] #[.pointer (some a)]
def fragV : Value := .func (.func 44) #[] #[]
def kinds (a : Addr) : List (Value × Value) := [(.int .u8 60, optV), (.int .u8 0, hopV a), (.int .u8 43, routV a), (.int .u8 44, fragV)]
/-- What headers tells: a map, and the variable that its closures share. -/
def HMap (w : World) (e : Ending) (w' : World) : Prop :=
  e = .returned (.map (some (w.heap.size + 1))) ∧ Below w.heap.size w w' ∧ KMap w' (w.heap.size + 1) (.int .u8) (kinds ⟨w.heap.size, 0, none⟩) ∧ w'.cell? ⟨w.heap.size, 0, none⟩ = some (.func (.func 41) #[] #[])
def hmapOf (a : Addr) : Array MapEntry := #[⟨.int .u8 60, .func (.func 41) #[] #[], 0⟩, ⟨.int .u8 0, .func (.func 42) #[] #[.pointer (some a)], 1⟩, ⟨.int .u8 43, .func (.func 43) #[] #[.pointer (some a)], 2⟩, ⟨.int .u8 44, .func (.func 44) #[] #[], 3⟩]
theorem hmap_here (w : World) : HMap w (.returned (.map (some (w.heap.size + 1)))) ((w.alloc (.cells #[.func (.func 41) #[] #[]] 89)).alloc (.map (hmapOf ⟨w.heap.size, 0, none⟩) 4)) := by
  have e1 : (w.alloc (.cells #[.func (.func 41) #[] #[]] 89)).heap.size = w.heap.size + 1 := by simp
  refine ⟨rfl, below_alloc2 w _ _, ⟨hmapOf ⟨w.heap.size, 0, none⟩, 4, ?_, rfl, ?_⟩, ?_⟩
  · rw [← e1]; exact heap_alloc_new _ _
  · intro p hp
    simp [kinds] at hp
    rcases hp with rfl | rfl | rfl | rfl <;> rfl
  · go_simp
set_option maxHeartbeats 1000000 in
theorem headers_any (w : World) : Calls Try.prog 36 #[] w (HMap w) := by
  have hmm := @run_makeMap Try.prog
  have hmf : ∀ (fn : Fn) (first cap : Array Value) (w : World), (Instr.makeFunc fn first cap).run Try.prog w = .ok (.func fn first cap) w := fun _ _ _ _ => rfl
  have hput : ∀ (w1 : World) (es : Array MapEntry) (clock : Nat) (x : Int) (v : Value), (∀ y ∈ es.toList, IsKey (.int .u8) y.key) → kfind (.int .u8) (.int .u8 x) (es.toList.map fun e => (e.key, e.val)) = none →
      (Instr.mapUpdate 87 (.map (some w1.heap.size)) (.int .u8 x) v).run Try.prog (w1.alloc (.map es clock)) = .ok () (w1.alloc (.map (es.push ⟨.int .u8 x, v, clock⟩) (clock + 1))) := fun w1 es clock x v h1 h2 =>
    run_put_last (P := Try.prog) Try.underlying87 Try.underlying5 (by rfl) v h1 h2 _ rfl
  have H := hmap_here w
  have e1 : (w.alloc (.cells #[.func (.func 41) #[] #[]] 89)).heap.size = w.heap.size + 1 := by simp
  have p1 := hput (w.alloc (.cells #[.func (.func 41) #[] #[]] 89)) #[] 0 60 (.func (.func 41) #[] #[]) (by simp) rfl
  have p2 := hput (w.alloc (.cells #[.func (.func 41) #[] #[]] 89)) #[⟨.int .u8 60, .func (.func 41) #[] #[], 0⟩] 1 0 (.func (.func 42) #[] #[.pointer (some ⟨w.heap.size, 0, none⟩)]) (by simp [IsKey]) (by rfl)
  have p3 := hput (w.alloc (.cells #[.func (.func 41) #[] #[]] 89)) #[⟨.int .u8 60, .func (.func 41) #[] #[], 0⟩, ⟨.int .u8 0, .func (.func 42) #[] #[.pointer (some ⟨w.heap.size, 0, none⟩)], 1⟩] 2 43 (.func (.func 43) #[] #[.pointer (some ⟨w.heap.size, 0, none⟩)]) (by simp [IsKey]) (by rfl)
  have p4 := hput (w.alloc (.cells #[.func (.func 41) #[] #[]] 89)) #[⟨.int .u8 60, .func (.func 41) #[] #[], 0⟩, ⟨.int .u8 0, .func (.func 42) #[] #[.pointer (some ⟨w.heap.size, 0, none⟩)], 1⟩, ⟨.int .u8 43, .func (.func 43) #[] #[.pointer (some ⟨w.heap.size, 0, none⟩)], 2⟩] 3 44 (.func (.func 44) #[] #[]) (by simp [IsKey]) (by rfl)
  rw [e1] at p1 p2 p3 p4
  simp only [List.push_toArray, List.nil_append, List.cons_append, Nat.reduceAdd, Nat.zero_add] at p1 p2 p3 p4
  have HH := Lib.hid H
  clear hput e1 H
  go_enter Try.func36, Try.ntmps36
  go_wp2
  go_ret
  exact HH.out
end Go.Proofs.Ythjgecdnlpdcdaa
