/- Stage 13: what is asked of the program's table (also by the layers above). -/
import Derived.RangeFuncNested
import Derived.RangeFuncBound
import Derived.RangeFuncCalls
import Derived.RangeFuncLeaves
import Derived.Shelf.Abstract
import Derived.Shelf.RegionOpen
import Derived.Test.YthbjkchgbjopfaaTe
import Derived.Test.YthbjkchgbjopfaaSg
namespace Go.Proofs.Ythbjkchgbjopfaa
set_option maxRecDepth 100000
open Go.RowKit Go.Shelf
/-- A function that is handed in and asked about numbers: what it answers, what it turns (R), what is known as it is asked (J of the numbers asked so far, of T), whatever is laid from b0 on. -/
structure AsksG (fid : FuncId) (cap : Array Value) (ans : Nat → Bool) (R : Nat → Prop) (b0 : Nat) (T : List Nat) (J : List Nat → World → Prop) : Prop where
  eg : ∀ args w, (callFunc fid args).run Try.prog w = .ok (.enter fid args) w
  stay : ∀ l W W', J l W → Kept (fun k => b0 ≤ k) W W' → J l W'
  call : ∀ l (x : Nat) W, J l W → x < 4294967296 → l ++ [x] <+: T → b0 ≤ W.heap.size → Calls Try.prog fid (#[.int .u32 (x : Int)] ++ cap) W fun e W' => e = .returned (.bool (ans x)) ∧ J (l ++ [x]) W' ∧ Kept R W W'
/-- The numbers that are asked, up to the first one of which it is said. -/
def askL (ans : Nat → Bool) : List Nat → List Nat
  | [] => []
  | x :: r => if ans x then [x] else x :: askL ans r
theorem askL_len (ans : Nat → Bool) : ∀ l, (askL ans l).length ≤ l.length
  | [] => Nat.le_refl _
  | x :: r => by
    unfold askL
    have := askL_len ans r
    split
    · simp only [List.length_cons, List.length_nil]; omega
    · simp only [List.length_cons]; omega
theorem askL_pre (ans : Nat → Bool) : ∀ l, askL ans l <+: l
  | [] => List.prefix_rfl
  | x :: r => by
    unfold askL
    split
    · exact ⟨r, rfl⟩
    · exact (List.prefix_cons_inj x).2 (askL_pre ans r)
namespace Tb
def fn (s : Tb) (h : Nat) (ans : Nat → Bool) : Option Nat := (s.way h).find? (fun k => ans (s.ew k))
def fnV (s : Tb) (h : Nat) (ans : Nat → Bool) : Array Value := match s.fn h ans with
  | none => #[.int .i64 0, .bool false]
  | some k => #[.int .i64 (k : Int), .bool true]
def fnL (s : Tb) (h : Nat) (ans : Nat → Bool) : List Nat := askL ans ((s.way h).map s.ew)
theorem fn_find (s : Tb) (h x : Nat) : s.fn h (fun y => y == x) = s.find h x := rfl
theorem fnV_find (s : Tb) (h x : Nat) : s.fnV h (fun y => y == x) = s.fdV h x := rfl
end Tb
/-- An entry of a place, as All hands it on. -/
def tEnc (x : Nat × Nat × Nat) : Array Value := #[.int .i64 (x.1 : Int), .agg #[.int .u64 (x.2.1 : Int), .int .u32 (x.2.2 : Int)]]
/-- A function that tells l, one by one, as far as it is asked, as long as its blocks are kept. -/
def ItG {α : Type} (enc : α → Array Value) (g : Nat) (lb : Array Value) (l : List α) (Fi : Nat → Prop) (w : World) : Prop := ∀ R : Nat → Prop, (∀ k, Fi k → ¬ R k) → SeqStopsK Fence.wide 12 Try.prog g lb enc (Kept R) (fun xs => xs = l) (fun pre => pre <+: l) l.length w
/-- What the laws ask of the program's table: PT w p s F: at p stands what is s, in the blocks of F; g tells what All tells. -/
structure TabP (PT : World → Nat → Tb → (Nat → Prop) → Prop) (g : Nat) : Prop where
  foot : FootG PT
  eg : ∀ args w, (callFunc g args).run Try.prog w = .ok (.enter g args) w
  new_no : ∀ (n : Int) (w : World), mayI n = false → Calls Try.prog 7 #[.int .i64 n] w (ret (.tuple #[.pointer none, .int .i64 2]) w)
  new : ∀ (n : Nat) (w : World), mayI (n : Int) = true → Calls Try.prog 7 #[.int .i64 (n : Int)] w fun e w' => ∃ p F, e = .returned (.tuple #[.pointer (some ⟨p, 0, none⟩), .int .i64 0]) ∧ PT w' p (Tb.new n) F ∧ (∀ k, F k → w.heap.size ≤ k) ∧ Below w.heap.size w w'
  put : ∀ {w : World} {p : Nat} {s : Tb} {F : Nat → Prop}, PT w p s F → s.Ok → ∀ h x : Nat, h < 18446744073709551616 → x < 4294967296 → Calls Try.prog 10 #[.pointer (some ⟨p, 0, none⟩), .agg #[.int .u64 (h : Int), .int .u32 (x : Int)]] w fun e w' => e = .returned (.tuple #[.int .i64 (s.ptI h : Int), .int .i64 (s.ptE h)]) ∧ ∃ F', PT w' p (s.pt h x) F' ∧ ExtG F F' w w'
  drop : ∀ {w : World} {p : Nat} {s : Tb} {F : Nat → Prop}, PT w p s F → s.Ok → ∀ q : Int, Calls Try.prog 12 #[.pointer (some ⟨p, 0, none⟩), .int .i64 q] w fun e w' => e = .returned (.int .i64 (s.drE q)) ∧ ∃ F', PT w' p (s.dr q) F' ∧ ExtG F F' w w'
  find : ∀ {w : World} {p : Nat} {s : Tb} {F R : Nat → Prop}, PT w p s F → s.Ok → ∀ h : Nat, h < 18446744073709551616 → ∀ (fid : FuncId) (cap : Array Value) (ans : Nat → Bool) (J : List Nat → World → Prop), AsksG fid cap ans R w.heap.size ((s.way h).map s.ew) J → (∀ k, R k → k < w.heap.size ∧ ¬ F k) → J [] w →
    Calls Try.prog 27 #[.pointer (some ⟨p, 0, none⟩), .int .u64 (h : Int), .func (.func fid) #[] cap] w fun e w' => e = .returned (.tuple (s.fnV h ans)) ∧ J (s.fnL h ans) w' ∧ Kept R w w'
  get : ∀ {w : World} {p : Nat} {s : Tb} {F : Nat → Prop}, PT w p s F → s.Ok → ∀ q : Int, Calls Try.prog 23 #[.pointer (some ⟨p, 0, none⟩), .int .i64 q] w (ret (.tuple #[.agg (s.gtV q), .bool (s.isF q)]) w)
  places : ∀ {w : World} {p : Nat} {s : Tb} {F : Nat → Prop}, PT w p s F → s.Ok → Calls Try.prog 24 #[.pointer (some ⟨p, 0, none⟩)] w (ret (.int .i64 (s.n : Int)) w)
  entries : ∀ {w : World} {p : Nat} {s : Tb} {F : Nat → Prop}, PT w p s F → s.Ok → Calls Try.prog 22 #[.pointer (some ⟨p, 0, none⟩)] w (ret (.int .i64 (s.entries : Int)) w)
  marks : ∀ {w : World} {p : Nat} {s : Tb} {F : Nat → Prop}, PT w p s F → s.Ok → Calls Try.prog 25 #[.pointer (some ⟨p, 0, none⟩)] w (ret (.int .i64 (s.marks : Int)) w)
  copy : ∀ {w : World} {p : Nat} {s : Tb} {F : Nat → Prop}, PT w p s F → s.Ok → Calls Try.prog 16 #[.pointer (some ⟨p, 0, none⟩)] w fun e w' => ∃ b F', e = .returned (.pointer (some ⟨b, 0, none⟩)) ∧ PT w' b s F' ∧ (∀ k, F' k → w.heap.size ≤ k) ∧ Below w.heap.size w w'
  all : ∀ {w : World} {p : Nat} {s : Tb} {F : Nat → Prop}, PT w p s F → s.Ok → Calls Try.prog 26 #[.pointer (some ⟨p, 0, none⟩)] w fun e w' => ∃ lb Fi, e = .returned (.func (.func g) #[] lb) ∧ Below w.heap.size w w' ∧ (∀ k, Fi k → k < w'.heap.size ∧ (F k ∨ w.heap.size ≤ k)) ∧ ItG tEnc g lb s.all Fi w'
end Go.Proofs.Ythbjkchgbjopfaa
