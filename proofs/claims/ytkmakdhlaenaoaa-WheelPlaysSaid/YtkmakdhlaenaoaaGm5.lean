import Derived.Test.YtkmakdhlaenaoaaGm0
import Derived.Test.YtkmakdhlaenaoaaGm4
/- Stage 9's pure words: what is live in an arena, by cells: each taken cell's handle, from the first cell on; they are as many as are taken; what is told is live, and all that is live is told. -/
namespace Go.Proofs.Ytkmakdhlaenaoaa
namespace Ar
/-- The handles of the taken cells among the first n. -/
def told (s : Ar) (n : Nat) : List (Nat × Nat) := ((List.range n).filter (fun i => s.at_ i != 0)).map (fun i => (i, s.at_ i))
theorem told_zero (s : Ar) : s.told 0 = [] := rfl
theorem told_succ (s : Ar) (n : Nat) : s.told (n + 1) = if s.at_ n != 0 then s.told n ++ [(n, s.at_ n)] else s.told n := by
  unfold told
  rw [List.range_succ, List.filter_append, List.map_append]
  by_cases h : s.at_ n = 0
  · simp [h]
  · simp [h]
theorem told_length (s : Ar) : (s.told s.has.length).length = s.count := by
  unfold told count
  rw [List.length_map, ← List.countP_eq_length_filter]
  have h : s.has = (List.range s.has.length).map s.at_ := by
    apply List.ext_getElem
    · simp
    · intro i h1 h2
      simp [at_, List.getElem?_eq_getElem h1]
  have h2 : s.has.countP (fun x => x != 0) = ((List.range s.has.length).map s.at_).countP (fun x => x != 0) := congrArg _ h
  rw [h2, List.countP_map]
  rfl
theorem told_live {s : Ar} {n : Nat} {x : Nat × Nat} (h : x ∈ s.told n) : x.1 < n ∧ x.2 = s.at_ x.1 ∧ s.live (x.1 : Int) x.2 = true := by
  unfold told at h
  obtain ⟨i, hi, rfl⟩ := List.mem_map.mp h
  rw [List.mem_filter, List.mem_range] at hi
  have h2 : s.at_ i ≠ 0 := by simpa using hi.2
  refine ⟨hi.1, rfl, live_iff.mpr ⟨by simp, h2, by simp⟩⟩
theorem live_told {s : Ar} {i k : Nat} (h : s.live (i : Int) k = true) : (i, k) ∈ s.told s.has.length := by
  obtain ⟨_, h0, hk⟩ := live_iff.mp h
  rw [Int.toNat_natCast] at hk
  have hi : i < s.has.length := Nat.lt_of_not_le fun hle => h0 (by rw [← hk]; exact at_out hle)
  unfold told
  refine List.mem_map.mpr ⟨i, ?_, by rw [hk]⟩
  rw [List.mem_filter, List.mem_range]
  exact ⟨hi, by rw [hk]; simp [h0]⟩
/-- A full arena: each cell's handle is told. -/
theorem told_full {s : Ar} (h : s.which = none) : (s.told s.has.length).length = s.has.length := by
  rw [told_length, count_full h]
end Ar
end Go.Proofs.Ytkmakdhlaenaoaa
/- Stage 9: the document's arena in memory; New, which, Live. -/
namespace Go.Proofs.Ytkmakdhlaenaoaa
set_option maxRecDepth 100000
open Go.RowKit
/-- The blocks of G, but q. -/
def GQ (G : Nat → Prop) (q : Nat) : Nat → Prop := fun k => G k ∧ k ≠ q
/-- The document's arena at a block, as fields. -/
structure RX (w : World) (q : Nat) (A : Option Addr) (n c : Nat) (B : Option Addr) (m d S : Nat) (ha fr : Nat → Nat) (G : Nat → Prop) : Prop where
  blk : w.heap[q]? = some (.cells #[.slice A n c, .slice B m d, .int .u64 (S : Int)] 105 (0, 0))
  mem : G q
  old : ∀ k, G k → k < w.heap.size
  has : RdG w (GQ G q) A n (fun k => .int .u64 (ha k : Int))
  free : RdG w (GQ G q) B m (fun k => .int .i64 (fr k : Int))
  c1 : n ≤ c
  c2 : c ≤ 9223372036854775807
  d1 : m ≤ d
  d2 : d ≤ 9223372036854775807
theorem RX.keep {w w' : World} {q : Nat} {A : Option Addr} {n c : Nat} {B : Option Addr} {m d S : Nat} {ha fr : Nat → Nat} {G R : Nat → Prop} (h : RX w q A n c B m d S ha fr G) (hk : Kept R w w') (hd : ∀ k, G k → ¬ R k) : RX w' q A n c B m d S ha fr G :=
  ⟨(hk.block q (h.old q h.mem) (hd q h.mem)).trans h.blk, h.mem, fun k g => Nat.lt_of_lt_of_le (h.old k g) hk.size, h.has.keep hk (fun k g => hd k g.1), h.free.keep hk (fun k g => hd k g.1), h.c1, h.c2, h.d1, h.d2⟩
theorem RX.step {w w' : World} {q : Nat} {A : Option Addr} {n c : Nat} {B : Option Addr} {m d S : Nat} {ha fr : Nat → Nat} {G : Nat → Prop} (h : RX w q A n c B m d S ha fr G) (hb : Below w.heap.size w w') : RX w' q A n c B m d S ha fr G :=
  h.keep (Kept.of_below hb fun _ => False) fun _ _ q => q
/-- .. as what it stands for. -/
def RA (w : World) (q : Nat) (s : Ar) (G : Nat → Prop) : Prop := ∃ A c B d, RX w q A s.has.length c B s.freed.length d s.serial s.at_ (fun k => s.freed.getD k 0) G
theorem RA.keep {w w' : World} {q : Nat} {s : Ar} {G R : Nat → Prop} (h : RA w q s G) (hk : Kept R w w') (hd : ∀ k, G k → ¬ R k) : RA w' q s G := by
  obtain ⟨A, c, B, d, h⟩ := h
  exact ⟨A, c, B, d, h.keep hk hd⟩
theorem RA.old {w : World} {q : Nat} {s : Ar} {G : Nat → Prop} (h : RA w q s G) : ∀ k, G k → k < w.heap.size := by
  obtain ⟨A, c, B, d, h⟩ := h
  exact h.old
theorem Try.infoU : (Try.prog.info? 22).map (fun i => (i.zero, i.size, i.bytes)) = some (some (.int .u64 0), 1, 8) := by kernel_rfl
theorem Try.infoI : (Try.prog.info? 3).map (fun i => (i.zero, i.size, i.bytes)) = some (some (.int .i64 0), 1, 8) := by kernel_rfl
theorem rnew_any (n : Nat) (hn : n ≤ 65536) (w : World) : Calls Try.prog 23 #[.int .i64 (n : Int)] w fun e w' => ∃ q G, e = .returned (.pointer (some ⟨q, 0, none⟩)) ∧ RA w' q (Ar.new n) G ∧ (∀ k, G k → w.heap.size ≤ k) ∧ Below w.heap.size w w' := by
  obtain ⟨i0, hi0, hz0, hz1, hz2⟩ := info_parts Try.infoU
  have hmk : ∀ W : World, ∃ w', (Instr.makeSlice 103 (.int .i64 (n : Int)) (.int .i64 (n : Int))).run Try.prog W = .ok (.slice (some ⟨W.heap.size, 0, none⟩) n n) w' ∧ OwnC w' W.heap.size 22 1 (some ⟨W.heap.size, 0, none⟩) n n (fun _ => .int .u64 0) ∧ W.grownBy w' none := fun W =>
    run_make_vals (P := Try.prog) W W.heap.size 103 22 i0 (.int .u64 0) Try.underlying103 hi0 hz0 hz1 rfl n (by rw [hz2]; omega) (by unfold maxLen; omega) (Nat.le_refl _)
  obtain ⟨u1, hm, ho, hg⟩ := hmk w
  have HO := Lib.hid ho
  have HB : Hid (Below w.heap.size w u1) := Lib.hid ((Below.refl _ _).grown hg (Nat.le_refl _) fun _ h => nomatch h)
  clear ho hg hmk hi0 hz0 hz1 hz2
  have hbd : ∀ (A : Option Addr) (w : World), (Instr.build 105 #[(0, .slice A n n)]).run Try.prog w = .ok (.agg #[.slice A n n, .slice none 0 0, .int .u64 0]) w := fun A w => by kernel_rfl
  go_enter Try.func23, Try.ntmps23
  go_wp2
  go_ret
  have hl : (Ar.new n).has.length = n := List.length_replicate
  have ha : ∀ k, (Ar.new n).at_ k = 0 := fun k => by
    unfold Ar.at_ Ar.new
    rw [List.getElem?_replicate]
    split <;> rfl
  refine ⟨u1.heap.size, fun k => w.heap.size ≤ k ∧ k < u1.heap.size + 1, rfl, ⟨some ⟨w.heap.size, 0, none⟩, n, none, 0, ?_⟩, fun k h => h.1, HB.out.alloc HB.out.size _⟩
  rw [hl]
  refine ⟨heap_alloc_new u1 _, ⟨HB.out.size, Nat.lt_succ_self _⟩, fun k h => by simpa using h.2, ?_, .inl rfl, Nat.le_refl _, by omega, Nat.le_refl _, by omega⟩
  exact (((HO.out.rdg (G := fun k => w.heap.size ≤ k ∧ k < u1.heap.size) fun k h1 h2 => ⟨h1, h2⟩).keep (Kept.of_below (below_alloc u1 _) fun _ => False) fun _ _ q => q).mono fun k h => ⟨⟨h.1, by omega⟩, by omega⟩).same fun k _ => by rw [ha]; rfl
end Go.Proofs.Ytkmakdhlaenaoaa
