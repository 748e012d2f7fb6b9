/- Stage 9: the document's arena in memory; New, which, Live. -/
import Derived.Test.YthljpfmonienlaaFoot
import Derived.Test.YthljpfmonienlaaArTold
namespace Go.Proofs.Ythljpfmonienlaa
set_option maxRecDepth 100000
open Go.RowKit
/-- The blocks of G, but q. -/
def GQ (G : Nat → Prop) (q : Nat) : Nat → Prop := fun k => G k ∧ k ≠ q
/-- The document's arena at a block, as fields. -/
structure RX (w : World) (q : Nat) (A : Option Addr) (n c : Nat) (B : Option Addr) (m d S : Nat) (ha fr : Nat → Nat) (G : Nat → Prop) : Prop where
  blk : w.heap[q]? = some (.cells #[.slice A n c, .slice B m d, .int .u64 (S : Int)] 63 (0, 0))
  mem : G q
  old : ∀ k, G k → k < w.heap.size
  has : RdG w (GQ G q) A n (fun k => .int .u64 (ha k : Int))
  free : RdG w (GQ G q) B m (fun k => .int .i64 (fr k : Int))
  c1 : n ≤ c
  c2 : c ≤ 9223372036854775807
  d1 : m ≤ d
  d2 : d ≤ 9223372036854775807
theorem RX.keep {w w' : World} {q : Nat} {A : Option Addr} {n c : Nat} {B : Option Addr} {m d S : Nat} {ha fr : Nat → Nat} {G R : Nat → Prop} (h : RX w q A n c B m d S ha fr G) (hk : Kept R w w') (hd : ∀ k, G k → ¬ R k) : RX w' q A n c B m d S ha fr G :=
  ⟨(hk.block q (h.old q h.mem) (hd q h.mem)).trans h.blk, h.mem, fun k g => Nat.lt_of_lt_of_le (h.old k g) hk.size, h.has.keep hk (fun k g => hd k g.1), h.free.keep hk (fun k g => hd k g.1), h.c1, h.c2, h.d1, h.d2⟩
theorem RX.step {w w' : World} {q : Nat} {A : Option Addr} {n c : Nat} {B : Option Addr} {m d S : Nat} {ha fr : Nat → Nat} {G : Nat → Prop} (h : RX w q A n c B m d S ha fr G) (hb : Below w.heap.size w w') : RX w' q A n c B m d S ha fr G :=
  h.keep (Kept.of_below hb fun _ => False) fun _ _ q => q
/-- .. as what it stands for. -/
def RA (w : World) (q : Nat) (s : Ar) (G : Nat → Prop) : Prop := ∃ A c B d, RX w q A s.has.length c B s.freed.length d s.serial s.at_ (fun k => s.freed.getD k 0) G
theorem RA.keep {w w' : World} {q : Nat} {s : Ar} {G R : Nat → Prop} (h : RA w q s G) (hk : Kept R w w') (hd : ∀ k, G k → ¬ R k) : RA w' q s G := by
  obtain ⟨A, c, B, d, h⟩ := h
  exact ⟨A, c, B, d, h.keep hk hd⟩
theorem RA.old {w : World} {q : Nat} {s : Ar} {G : Nat → Prop} (h : RA w q s G) : ∀ k, G k → k < w.heap.size := by
  obtain ⟨A, c, B, d, h⟩ := h
  exact h.old
theorem Try.infoU : (Try.prog.info? 30).map (fun i => (i.zero, i.size, i.bytes)) = some (some (.int .u64 0), 1, 8) := by kernel_rfl
theorem Try.infoI : (Try.prog.info? 3).map (fun i => (i.zero, i.size, i.bytes)) = some (some (.int .i64 0), 1, 8) := by kernel_rfl
theorem rnew_any (n : Nat) (hn : n ≤ 65536) (w : World) : Calls Try.prog 8 #[.int .i64 (n : Int)] w fun e w' => ∃ q G, e = .returned (.pointer (some ⟨q, 0, none⟩)) ∧ RA w' q (Ar.new n) G ∧ (∀ k, G k → w.heap.size ≤ k) ∧ Below w.heap.size w w' := by
  obtain ⟨i0, hi0, hz0, hz1, hz2⟩ := info_parts Try.infoU
  have hmk : ∀ W : World, ∃ w', (Instr.makeSlice 60 (.int .i64 (n : Int)) (.int .i64 (n : Int))).run Try.prog W = .ok (.slice (some ⟨W.heap.size, 0, none⟩) n n) w' ∧ OwnC w' W.heap.size 30 1 (some ⟨W.heap.size, 0, none⟩) n n (fun _ => .int .u64 0) ∧ W.grownBy w' none := fun W =>
    run_make_vals (P := Try.prog) W W.heap.size 60 30 i0 (.int .u64 0) Try.underlying60 hi0 hz0 hz1 rfl n (by rw [hz2]; omega) (by unfold maxLen; omega) (Nat.le_refl _)
  obtain ⟨u1, hm, ho, hg⟩ := hmk w
  have HO := Lib.hid ho
  have HB : Hid (Below w.heap.size w u1) := Lib.hid ((Below.refl _ _).grown hg (Nat.le_refl _) fun _ h => nomatch h)
  clear ho hg hmk hi0 hz0 hz1 hz2
  have hbd : ∀ (A : Option Addr) (w : World), (Instr.build 63 #[(0, .slice A n n)]).run Try.prog w = .ok (.agg #[.slice A n n, .slice none 0 0, .int .u64 0]) w := fun A w => by kernel_rfl
  go_enter Try.func8, Try.ntmps8
  go_wp2
  go_ret
  have hl : (Ar.new n).has.length = n := List.length_replicate
  have ha : ∀ k, (Ar.new n).at_ k = 0 := fun k => by
    unfold Ar.at_ Ar.new
    rw [List.getElem?_replicate]
    split <;> rfl
  refine ⟨u1.heap.size, fun k => w.heap.size ≤ k ∧ k < u1.heap.size + 1, rfl, ⟨some ⟨w.heap.size, 0, none⟩, n, none, 0, ?_⟩, fun k h => h.1, HB.out.alloc HB.out.size _⟩
  rw [hl]
  refine ⟨heap_alloc_new u1 _, ⟨HB.out.size, Nat.lt_succ_self _⟩, fun k h => by simpa using h.2, ?_, .inl rfl, Nat.le_refl _, by omega, Nat.le_refl _, by omega⟩
  exact (((HO.out.rdg (G := fun k => w.heap.size ≤ k ∧ k < u1.heap.size) fun k h1 h2 => ⟨h1, h2⟩).keep (Kept.of_below (below_alloc u1 _) fun _ => False) fun _ _ q => q).mono fun k h => ⟨⟨h.1, by omega⟩, by omega⟩).same fun k _ => by rw [ha]; rfl
end Go.Proofs.Ythljpfmonienlaa
