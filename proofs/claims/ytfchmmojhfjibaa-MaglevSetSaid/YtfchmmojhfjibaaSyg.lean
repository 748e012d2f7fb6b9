/- Stage 19: the landed Order's sort: numbers by their names, those of the same name as they stood. -/
import Derived.Lib.Bytealg
import Derived.Test.YtfchmmojhfjibaaSyf
import Derived.Test.YtfchmmojhfjibaaMgi
namespace Go.Proofs.Ytfchmmojhfjibaa
set_option maxRecDepth 100000
open Go.RowKit Go.Shelf
open Go.Sort (Holds putRow putCells mapBlock onCells grow) in
theorem kept_srt {α : Type} [Inhabited α] (enc : α → Value) (w : World) (blk m : Nat) (dk : Array α) (os : Array Obj) (k : Nat) (hk : k < w.heap.size) (hn : k ≠ blk) : (sortWorld enc w blk 0 m dk os).heap[k]? = w.heap[k]? := by
  have hk2 : k < (putRow enc (Go.Sort.ahead w m) blk 0 dk).heap.size := by rw [size_putRow]; exact hk
  unfold sortWorld
  rw [Go.Sort.heap_grow_old _ _ hk2]
  unfold putRow mapBlock
  simp only [Array.getElem?_modify]
  rw [if_neg (fun e => hn e.symm)]
  rfl
open Go.Sort (Holds putRow putCells mapBlock onCells grow) in
theorem srt_heap {α : Type} [Inhabited α] (enc : α → Value) (w : World) (blk m : Nat) (dk : Array α) (os : Array Obj) (cur : Array Value) (e : TypeId) (h : w.heap[blk]? = some (.cells cur e (0, 0))) (hlt : blk < w.heap.size) : (sortWorld enc w blk 0 m dk os).heap[blk]? = some (.cells (putCells enc 0 dk cur) e (0, 0)) := by
  have hk2 : blk < (putRow enc (Go.Sort.ahead w m) blk 0 dk).heap.size := by rw [size_putRow]; exact hlt
  unfold sortWorld
  rw [Go.Sort.heap_grow_old _ _ hk2]
  unfold putRow mapBlock
  simp only [Array.getElem?_modify, if_true]
  have : (Go.Sort.ahead w m).heap[blk]? = some (.cells cur e (0, 0)) := h
  rw [this]
  rfl
open Go.Sort (Holds putRow putCells mapBlock onCells grow) in
/-- A row sorted lies as it lay. -/
theorem own_srt {α : Type} [Inhabited α] {enc : α → Value} {w : World} {base : Nat} {e : TypeId} {g n d : Nat} {f : Nat → Value} (h : OwnC w base e 1 (some ⟨g, 0, none⟩) n d f) (hlt : g < w.heap.size) (m : Nat) (dk : Array α) (hs : dk.size = n) (os : Array Obj) :
    OwnC (sortWorld enc w g 0 m dk os) base e 1 (some ⟨g, 0, none⟩) n d (fun k => enc dk[k]!) := by
  rcases h.2 with ⟨hh, _⟩ | ⟨g', cap, cur, hv, hb, hh, hc, hm, hcs, ht⟩
  · cases hh
  · injection hv with h1 _ h3
    injection h1 with h1
    injection h1 with h1
    subst h1 h3
    refine ⟨by rw [vals_len], .inr ⟨g, d, _, rfl, hb, srt_heap enc w g m dk os cur e hh hlt, hc, hm, ?_, ?_⟩⟩
    · unfold putCells
      rw [Array.size_mapIdx]
      exact hcs
    · rw [Nat.mul_one] at hcs ht ⊢
      apply List.ext_getElem?
      intro k
      by_cases hk : k < n
      · rw [List.getElem?_take, if_pos hk, vals_get hk, Array.getElem?_toList]
        unfold putCells
        rw [Array.getElem?_mapIdx, Array.getElem?_eq_getElem (by omega)]
        simp only [Option.map_some]
        rw [if_pos ⟨Nat.zero_le _, by omega⟩, Nat.sub_zero]
      · rw [List.getElem?_eq_none (by rw [List.length_take]; omega), List.getElem?_eq_none (by rw [vals_len]; omega)]
/-- Two names compared. -/
def cmpB (a b : ByteArray) : Int := Lib.compareBytes a.data.toList b.data.toList
theorem cb_lt : ∀ x y : List UInt8, Lib.compareBytes x y < 0 ↔ Op.bytesLess x y = true
  | [], [] => by simp [Lib.compareBytes, Op.bytesLess]
  | [], _ :: _ => by simp [Lib.compareBytes, Op.bytesLess]
  | _ :: _, [] => by simp [Lib.compareBytes, Op.bytesLess]
  | a :: x, b :: y => by
    unfold Lib.compareBytes Op.bytesLess
    by_cases h1 : a < b
    · simp [h1]
    · by_cases h2 : b < a
      · have h3 : ¬ a = b := fun e => by rw [e] at h2; exact absurd h2 (UInt8.lt_irrefl b)
        simp [h1, h2, h3]
      · have h3 : a = b := by
          apply UInt8.toNat_inj.1
          rw [UInt8.lt_iff_toNat_lt] at h1 h2
          omega
        simp [h3, cb_lt x y]
theorem cmpB_lt (a b : ByteArray) : cmpB a b < 0 ↔ ltB a b = true := by
  unfold cmpB ltB
  rw [ByteArray.toList_eq, ByteArray.toList_eq]
  exact cb_lt _ _
theorem pcmpstr (a b : ByteArray) (w : World) : Calls Try.prog 37 #[.string a, .string b] w fun e w' => e = .returned (.int .i64 (cmpB a b)) ∧ w' = w := by
  go_enter Try.func37, Try.ntmps37
  go_wp2
  rw [run_callFunc_extern Try.func47 (by kernel_rfl) (by kernel_rfl) (by kernel_rfl) (e := Extern.BytealgCompare.compare) (by kernel_rfl), Lib.run_compareString]
  simp only [Result.andThen]
  rw [Oper.upon_value]
  go_wp2
  go_ret
  exact ⟨rfl, rfl⟩
theorem pstrcmp (a b : ByteArray) (w : World) : Calls Try.prog 25 #[.string a, .string b] w fun e w' => e = .returned (.int .i64 (cmpB a b)) ∧ w' = w := by
  have HC := Lib.hid (pcmpstr a b w)
  go_enter Try.func25, Try.ntmps25
  go_wp2_with (first
    | (go_at_call 37
       refine HC.out.mono ?_
       rintro e w' ⟨rfl, rfl⟩))
  go_ret
  exact ⟨rfl, rfl⟩
set_option maxHeartbeats 1000000 in
/-- The closure: two numbers' names compared. -/
theorem porder1 (w : World) (b lb lo n c : Nat) (l : List Wt) (hb : w.cell? ⟨b, 0, none⟩ = some (.slice (some ⟨lb, lo, none⟩) n c)) (hc : ∀ j, j < n → w.cell? ⟨lb, lo + j * 2, none⟩ = some (.string (wa l j).s)) (x y : Nat) (hx : x < n) (hy : y < n) :
    Calls Try.prog 24 #[.int .i64 (x : Int), .int .i64 (y : Int), .pointer (some ⟨b, 0, none⟩)] w fun e w' => e = .returned (.int .i64 (cmpB (wa l x).s (wa l y).s)) ∧ ∃ k, w' = w.drewN k := by
  have HC := Lib.hid fun k : Nat => Calls.quiet_of_same (w := w) (n := k) (pstrcmp (wa l x).s (wa l y).s (w.drewN k))
  have cx := hc x hx
  have cy := hc y hy
  obtain ⟨s, hs⟩ : ∃ s, s = (wa l x).s := ⟨_, rfl⟩
  obtain ⟨t, ht⟩ : ∃ t, t = (wa l y).s := ⟨_, rfl⟩
  rw [← hs] at HC cx ⊢
  rw [← ht] at HC cy ⊢
  have i0 : (0 : Int) ≤ (x : Int) := by omega
  have i1 : (x : Int) < (n : Int) := by omega
  have i2 : ((x : Int)).toNat = x := by omega
  have j0 : (0 : Int) ≤ (y : Int) := by omega
  have j1 : (y : Int) < (n : Int) := by omega
  have j2 : ((y : Int)).toNat = y := by omega
  clear hc hs ht
  go_enter Try.func24, Try.ntmps24
  go_upto_region 1 with fail
  go_quiet (first | (go_at_call 25; with_reducible exact HC.out _))
  go_wp2_with fail
  go_ret
  exact ⟨rfl, nq, rfl⟩
/-- Nothing to sort. -/
theorem pins_nil (A : Option Addr) (c : Nat) (v : Value) (g : Nat) (cb : Array Value) (hv : v = .func (.func g) #[] cb) (w : World) : Calls Try.prog 45 #[.slice A 0 c, .int .i64 0, .int .i64 0, v] w (fun e w' => e = .returned (.tuple #[]) ∧ w' = w) := by
  subst hv
  go_enter Try.func45, Try.ntmps45
  go_wp2_with fail
  go_loopw [8] (fun vi wr => vi = .int .i64 1 ∧ wr = w) (fun _ _ => 0)
  case atStart => exact ⟨rfl, rfl⟩
  case round =>
    obtain ⟨rfl, rfl⟩ := hrel
    go_wp2_with fail
    go_end0
    exact ⟨rfl, rfl⟩
theorem pstab_nil (A : Option Addr) (c g : Nat) (cb : Array Value) (w : World) : Calls Try.prog 23 #[.slice A 0 c, .func (.func g) #[] cb] w (fun e w' => e = .returned (.tuple #[]) ∧ w' = w) := by
  have HI := Lib.hid (pins_nil A c _ g cb rfl w)
  have HS : Hid (Calls Try.prog 36 #[.slice A 0 c, .int .i64 0, .func (.func g) #[] cb] w (fun e w' => e = .returned (.tuple #[]) ∧ w' = w)) := Lib.hid (by
    go_enter Try.func36, Try.ntmps36
    go_wp2_with fail
    go_loopw [7, 8] (fun va vb wr => va = .int .i64 0 ∧ vb = .int .i64 20 ∧ wr = w) (fun _ _ _ => 0)
    case atStart => exact ⟨rfl, rfl, rfl⟩
    case round =>
      obtain ⟨rfl, rfl, rfl⟩ := hrel
      go_wp2_with (first
        | (go_at_call 45
           refine HI.out.mono ?_
           rintro e u ⟨rfl, rfl⟩))
      go_loopw [6, 7, 8, 9] (fun vs _ _ _ wq => vs = .int .i64 20 ∧ wq = u) (fun _ _ _ _ _ => 0)
      case atStart => exact ⟨rfl, rfl⟩
      case round =>
        obtain ⟨rfl, rfl⟩ := hrel
        go_wp2_with fail
        go_end0
        exact ⟨rfl, rfl⟩)
  clear HI
  go_enter Try.func23, Try.ntmps23
  go_wp2_with (first
    | (go_at_call 36
       refine HS.out.mono ?_
       rintro e u ⟨rfl, rfl⟩))
  go_end0
  exact ⟨rfl, rfl⟩
end Go.Proofs.Ytfchmmojhfjibaa
