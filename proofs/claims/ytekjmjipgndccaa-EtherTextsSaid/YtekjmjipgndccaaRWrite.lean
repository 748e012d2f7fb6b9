/- The document's answers for layer 2: Write, Ours. -/
import Derived.Test.YtekjmjipgndccaaREther
import Derived.Laws.MakeOwn
import Derived.WalkLawsBesides
namespace Go.Proofs.Ytekjmjipgndccaa
open Go.RowKit

/-- A new slice of n bytes 0. -/
theorem run_make_bytes {P : Program} (w : World) (t e : TypeId) (i : TypeInfo) (ht : P.underlying t = some (.slice e)) (hi : P.info? e = some i) (hz : i.zero = some (.int .u8 0)) (hsize : i.size = 1) (hby : i.bytes = 1) (n : Nat) (hn : n ≤ 140737488355328) :
    (Instr.makeSlice t (.int .i64 (n : Int)) (.int .i64 (n : Int))).run P w = .ok (.slice (some ⟨w.heap.size, 0, none⟩) n n) (w.alloc (.cells (madeCells (Value.int .u8 0).cells n) e)) := by
  have h := run_make w t e i (.int .u8 0) ht hi hz .i64 .i64 (n : Int) (n : Int) (by omega) (by omega) (by rw [hby]; omega) (by omega)
  simp only [Int.toNat_natCast, hsize, Nat.mul_one] at h
  exact h
theorem made_own (w : World) (e : TypeId) (n : Nat) (hn : n ≤ 140737488355328) (g : Nat) (hg : g = w.heap.size) : Own (w.alloc (.cells (madeCells (Value.int .u8 0).cells n) e)) w.heap.size e (some ⟨g, 0, none⟩) n n (fun _ => 0) := by
  subst hg
  refine ⟨by simp [nums_len], .inr ⟨w.heap.size, n, _, rfl, Nat.le_refl _, heap_alloc_new w _, Nat.le_refl _, by unfold maxLen; omega, by simp [size_madeCells], ?_⟩⟩
  refine List.ext_getElem? fun k => ?_
  by_cases hk : k < n
  · simp [List.getElem?_take, hk, nums, madeCells, Value.cells, List.getElem?_range]
    rw [Nat.mod_one]
    rfl
  · rw [List.getElem?_eq_none (by simp [size_madeCells]; omega), List.getElem?_eq_none (by simp [nums_len]; omega)]

/-- The bytes of a frame. -/
def frm (d s : Nat → Int) (t : Int) (f : Nat → Int) (k : Nat) : Int :=
  if k < 6 then d k else if k < 12 then s (k - 6) else if k = 12 then t / 256 else if k = 13 then t % 256 else f (k - 14)
/-- The first j bytes of both addresses. -/
def fr1 (d s : Nat → Int) (j k : Nat) : Int := if k < j then d k else if 6 ≤ k ∧ k < 6 + j then s (k - 6) else 0
def fr2 (d s : Nat → Int) (t : Int) (f : Nat → Int) (j k : Nat) : Int := if k < 14 + j then frm d s t f k else 0
theorem fr1_step (d s : Nat → Int) (j : Nat) (hj : j < 6) (k : Nat) : fr1 d s (j + 1) k = upd (upd (fr1 d s j) j (d j)) (6 + j) (s j) k := by
  unfold upd
  by_cases h1 : k = 6 + j
  · subst h1
    unfold fr1
    rw [if_neg (by omega), if_pos (by omega), if_pos rfl]
    congr 1
    omega
  · rw [if_neg h1]
    by_cases h2 : k = j
    · subst h2
      unfold fr1
      rw [if_pos (by omega), if_pos rfl]
    · rw [if_neg h2]
      unfold fr1
      by_cases h3 : k < j
      · rw [if_pos h3, if_pos (by omega)]
      · rw [if_neg h3, if_neg (by omega)]
        by_cases h4 : 6 ≤ k ∧ k < 6 + j
        · rw [if_pos h4, if_pos (by omega)]
        · rw [if_neg h4, if_neg (by omega)]
theorem fr2_start (d s : Nat → Int) (t : Int) (f : Nat → Int) (k : Nat) : fr2 d s t f 0 k = upd (upd (fr1 d s 6) 12 (t / 256)) 13 (t % 256) k := by
  unfold upd fr2 fr1 frm
  by_cases h13 : k = 13
  · subst h13; simp
  · by_cases h12 : k = 12
    · subst h12; simp
    · by_cases h6 : k < 6
      · rw [if_pos (by omega), if_pos h6, if_neg h13, if_neg h12, if_pos h6]
      · by_cases hh : k < 12
        · rw [if_pos (by omega), if_neg h6, if_pos hh, if_neg h13, if_neg h12, if_neg h6, if_pos (by omega)]
        · rw [if_neg (by omega), if_neg h13, if_neg h12, if_neg h6, if_neg (by omega)]
theorem fr2_step (d s : Nat → Int) (t : Int) (f : Nat → Int) (j k : Nat) : fr2 d s t f (j + 1) k = upd (fr2 d s t f j) (14 + j) (f j) k := by
  unfold upd
  by_cases h : k = 14 + j
  · subst h
    unfold fr2 frm
    rw [if_pos (by omega), if_neg (by omega), if_neg (by omega), if_neg (by omega), if_neg (by omega), if_pos rfl]
    congr 1
    omega
  · rw [if_neg h]
    unfold fr2
    by_cases h2 : k < 14 + j
    · rw [if_pos h2, if_pos (by omega)]
    · rw [if_neg h2, if_neg (by omega)]

set_option maxHeartbeats 400000 in
theorem rours_any (t : Int) (w : World) : Calls Try.prog 12 #[.int .u16 t] w fun e w' => e = .returned (.bool (decide (t = 2048 ∨ t = 34525))) ∧ w = w' := by
  by_cases h1 : t = 2048
  · subst h1
    go_enter Try.func12, Try.ntmps12
    go_wp2
    go_ret
    exact ⟨rfl, rfl⟩
  · have h1' : (t == 2048) = false := by simpa using h1
    by_cases h2 : t = 34525
    · subst h2
      go_enter Try.func12, Try.ntmps12
      go_wp2
      go_ret
      exact ⟨rfl, rfl⟩
    · have h2' : (t == 34525) = false := by simpa using h2
      have h3 : decide (t = 2048 ∨ t = 34525) = false := by simp [h1, h2]
      rw [h3]
      go_enter Try.func12, Try.ntmps12
      go_wp2
      go_ret
      exact ⟨rfl, rfl⟩
set_option maxRecDepth 100000 in
set_option maxHeartbeats 400000 in
theorem rwrite_long (es : Array Value) (A : Option Addr) (n c : Nat) (hn : 1646 < n) (hn' : n ≤ 140737488355328) (w : World) :
    Calls Try.prog 10 #[.agg es, .slice A n c] w fun e w' => e = .returned (.tuple #[.slice none 0 0, .int .i64 3]) ∧ Below w.heap.size w w' := by
  go_enter Try.func10, Try.ntmps10
  go_wp2
  go_ret2
  exact ⟨rfl, below_alloc w _⟩
def WriteGood (base g et : Nat) (d s : Nat → Int) (t : Int) (f : Nat → Int) (n : Nat) (w : World) (e : Ending) (w' : World) : Prop :=
  e = .returned (.tuple #[.slice (some ⟨g, 0, none⟩) (14 + n) (14 + n), .int .i64 0]) ∧ Own w' base et (some ⟨g, 0, none⟩) (14 + n) (14 + n) (frm d s t f) ∧ Below base w w'
set_option maxRecDepth 100000 in
set_option maxHeartbeats 1000000 in
theorem rwrite_good (d s : Nat → Int) (hd : Byt d) (hs : Byt s) (t : Int) (ht : 0 ≤ t) (ht' : t ≤ 65535) (A : Option Addr) (n c : Nat) (f : Nat → Int) (hf : Byt f) (hn : n ≤ 1646) (w : World) (hr : Rd w w.heap.size A n f) :
    Calls Try.prog 10 #[.agg (eth d s t), .slice A n c] w (WriteGood w.heap.size (w.heap.size + 1) 5 d s t f n w) := by
  obtain ⟨i0, hi0, hz0, hz1, hz2⟩ := info_parts Try.info5
  have hmk := fun W : World => run_make_bytes (P := Try.prog) W 26 5 i0 Try.underlying26 hi0 hz0 hz1 hz2 (14 + n) (by omega)
  have HM := Lib.hid hmk
  clear hmk hi0 hz0 hz1 hz2
  have HF := Lib.hid hf
  have HD := Lib.hid hd
  have HS := Lib.hid hs
  have HR := Lib.hid hr
  clear hf hd hs hr
  have hcast : ((14 + n : Nat) : Int) = 14 + (n : Int) := by omega
  have hmk := HM.out
  rw [hcast] at hmk
  clear hcast
  go_enter Try.func10, Try.ntmps10
  go_wp2
  clear hmk
  have hO : Own ((w.alloc (Obj.cells (eth d s t) 25)).alloc (Obj.cells (madeCells #[Value.int IntKind.u8 0] (14 + n)) 5)) (w.heap.size + 1) 5 (some ⟨w.heap.size + 1, 0, none⟩) (14 + n) (14 + n) (fun _ => 0) := by
    have e1 : (w.alloc (Obj.cells (eth d s t) 25)).heap.size = w.heap.size + 1 := by simp
    have e := made_own (w.alloc (Obj.cells (eth d s t) 25)) 5 (14 + n) (by omega) (w.heap.size + 1) e1.symm
    rw [e1] at e
    exact e
  go_loopw [7] (fun i wr => ∃ k : Nat, k ≤ 6 ∧ i = .int .i64 k ∧ wr.heap[w.heap.size]? = some (.cells (eth d s t) 25 (0, 0)) ∧
    Own wr (w.heap.size + 1) 5 (some ⟨w.heap.size + 1, 0, none⟩) (14 + n) (14 + n) (fr1 d s k) ∧ Below w.heap.size w wr) (fun i _ => 6 - (intOf i).toNat)
  case atStart => exact ⟨0, by omega, rfl, blk_old (heap_alloc_new w _) _, hO.same fun k _ => by unfold fr1; rw [if_neg (by omega), if_neg (by omega)], below_alloc2 w _ _⟩
  case round =>
    clear hO
    obtain ⟨k, hk, rfl, hz, ho, hbl⟩ := hrel
    have HZ := Lib.hid hz
    have HO := Lib.hid ho
    clear hz ho
    obtain ⟨g, hg, _, _, hgc, hgf⟩ := HO.out.lies (by omega)
    obtain rfl : w.heap.size + 1 = g := by simpa using hg
    have HGC := Lib.hid hgc
    have HGF := Lib.hid hgf
    clear hgc hgf hg
    by_cases hlt : k < 6
    · have hx := (blk_cell HZ.out k).trans (eth_get _ _ _ k hlt).1
      have hy := (blk_cell HZ.out (6 + k)).trans (eth_get _ _ _ k hlt).2
      have hcx := HGC.out k (by omega)
      have hcy := HGC.out (6 + k) (by omega)
      have hfx := HGF.out k
      have hfy := HGF.out (6 + k)
      have HN := Lib.hid (((HO.out.set_ k (d k)).set_ (6 + k) (s k)).same (fun j _ => fr1_step d s k hlt j))
      have HN0 : Hid (((wr.setCell ⟨w.heap.size + 1, k, none⟩ (.int .u8 (d k))).setCell ⟨w.heap.size + 1, 6 + k, none⟩ (.int .u8 (s k))).heap[w.heap.size]? = some (.cells (eth d s t) 25 (0, 0))) :=
        blk_far (blk_far HZ.out (by simp) _) (by simp) _
      go_wp2
      go_roundw
      case rel => exact ⟨k + 1, by omega, by go_num, HN0.out, HN.out, (hbl.setCell (by simp) _).setCell (by simp) _⟩
      case measure => simp [intOf]; omega
    · obtain rfl : k = 6 := by omega
      clear hlt hk
      have hx := blk_cell HZ.out 12
      simp [eth] at hx
      have hcx := HGC.out 12 (by omega)
      have hcy := HGC.out 13 (by omega)
      have hfx := HGF.out 12
      have hfy := HGF.out 13
      have HN := Lib.hid (((HO.out.set_ 12 (t / 256)).set_ 13 (t % 256)).same (fun j _ => fr2_start d s t f j))
      have hb2 := (hbl.setCell (p := ⟨w.heap.size + 1, 12, none⟩) (by simp) (.int .u8 (t / 256))).setCell (p := ⟨w.heap.size + 1, 13, none⟩) (by simp) (.int .u8 (t % 256))
      clear HGC HGF HO
      have hq1 : IntKind.u16.wrap (t.tdiv 256) = t / 256 := by
        rw [Int.tdiv_eq_ediv_of_nonneg ht]
        simp only [IntKind.wrap_u16]
        omega
      have hq2 : t / 256 % 256 = t / 256 := by omega
      go_wp2
      clear hq1 hq2
      clear hx hcx hcy hfx hfy HZ hbl
      generalize (wr.setCell ⟨w.heap.size + 1, 12, none⟩ (.int .u8 (t / 256))).setCell ⟨w.heap.size + 1, 13, none⟩ (.int .u8 (t % 256)) = w2 at *
      go_loopw [8] (fun i wr => ∃ k : Nat, k ≤ n ∧ i = .int .i64 k ∧
        Own wr (w.heap.size + 1) 5 (some ⟨w.heap.size + 1, 0, none⟩) (14 + n) (14 + n) (fr2 d s t f k) ∧ Below w.heap.size w wr) (fun i _ => n - (intOf i).toNat)
      case atStart => exact ⟨0, by omega, rfl, HN.out, hb2⟩
      case round =>
        clear HN hb2
        obtain ⟨k, hk, rfl, ho, hbl⟩ := hrel
        have HO := Lib.hid ho
        clear ho
        obtain ⟨g, hg, _, _, hgc, hgf⟩ := HO.out.lies (by omega)
        obtain rfl : w.heap.size + 1 = g := by simpa using hg
        have HGC := Lib.hid hgc
        have HGF := Lib.hid hgf
        clear hgc hgf hg
        by_cases hlt : k < n
        · rcases HR.out with h0 | ⟨b, off, rfl, hlb, hcell⟩
          · omega
          · have hx := (hbl.cell (p := ⟨b, off + k, none⟩) hlb).trans (hcell k hlt)
            clear hcell
            have hcx := HGC.out (14 + k) (by omega)
            have hfx := HGF.out (14 + k)
            have HN := Lib.hid ((HO.out.set_ (14 + k) (f k)).same (fun j _ => fr2_step d s t f k j))
            go_wp2
            go_roundw
            case rel => exact ⟨k + 1, by omega, by go_num, HN.out, hbl.setCell (by simp) _⟩
            case measure => simp [intOf]; omega
        · obtain rfl : k = n := by omega
          go_wp2
          go_ret2
          exact ⟨rfl, (HO.out.le (Nat.le_succ _)).same fun j hj => by unfold fr2; rw [if_pos hj], hbl⟩
end Go.Proofs.Ytekjmjipgndccaa
