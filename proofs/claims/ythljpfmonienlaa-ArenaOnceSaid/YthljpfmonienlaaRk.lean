/- Stage 9: an arena of the call's own, whoever's, beside blocks that it does not turn. -/
import Derived.Test.YthljpfmonienlaaAc
import Derived.Test.YthljpfmonienlaaQh
namespace Go.Proofs.Ythljpfmonienlaa
set_option maxRecDepth 100000
open Go.RowKit Go.Shelf
/-- At p stands an arena that is s, in blocks of the call's own (from w on), none of X. -/
def St (PA : World → Nat → Ar → (Nat → Prop) → Prop) (w : World) (X : Nat → Prop) (W : World) (p : Nat) (s : Ar) : Prop :=
  ∃ F, PA W p s F ∧ (∀ k, F k → w.heap.size ≤ k ∧ ¬ X k) ∧ (∀ k, X k → k < W.heap.size) ∧ Below w.heap.size w W
section
variable {PA : World → Nat → Ar → (Nat → Prop) → Prop} {ft ff fc : FuncId} {w W : World} {X : Nat → Prop} {p : Nat} {s : Ar}
theorem St.ext (_HC : ArC PA ft ff fc) {F F' : Nat → Prop} {w' : World} {s' : Ar} (_hF : PA W p s F) (h : ∀ k, F k → w.heap.size ≤ k ∧ ¬ X k) (hX : ∀ k, X k → k < W.heap.size) (hb : Below w.heap.size w W) (hp : PA w' p s' F') (he : Ext F F' W w') : St PA w X w' p s' ∧ ∀ k, X k → w'.heap[k]? = W.heap[k]? := by
  refine ⟨⟨F', hp, fun k hk => ?_, fun k hk => Nat.lt_of_lt_of_le (hX k hk) he.kept.size, hb.trans (he.kept.below hb.size fun k hk => (h k hk).1)⟩, fun k hk => he.kept.block k (hX k hk) fun hf => (h k hf).2 hk⟩
  rcases he.sub k hk with q | ⟨q, _⟩
  · exact h k q
  · exact ⟨Nat.le_trans hb.size q, fun hx => absurd (hX k hx) (by omega)⟩
theorem St.take (h : St PA w X W p s) (HC : ArC PA ft ff fc) (hs : s.Ok) (hn : s.has.length ≤ 65536) (hS : s.serial ≤ 4611686018427387904) :
    Calls Try.prog ft #[.pointer (some ⟨p, 0, none⟩)] W fun e w' => e = .returned (.tuple #[.agg s.tkH, .int .i64 s.tkE]) ∧ St PA w X w' p s.tk ∧ ∀ k, X k → w'.heap[k]? = W.heap[k]? := by
  obtain ⟨F, hF, h1, h2, h3⟩ := h
  refine (HC.take hF hs hn hS).mono ?_
  rintro e w' ⟨rfl, F', hp, he⟩
  exact ⟨rfl, St.ext HC hF h1 h2 h3 hp he⟩
theorem St.free (h : St PA w X W p s) (HC : ArC PA ft ff fc) (hs : s.Ok) (hn : s.has.length ≤ 65536) (i : Int) (k : Nat) :
    Calls Try.prog ff #[.pointer (some ⟨p, 0, none⟩), .agg #[.int .i64 i, .int .u64 (k : Int)]] W fun e w' => e = .returned (.int .i64 (s.frE i k)) ∧ St PA w X w' p (s.fr i k) ∧ ∀ k, X k → w'.heap[k]? = W.heap[k]? := by
  obtain ⟨F, hF, h1, h2, h3⟩ := h
  refine (HC.free hF hs hn i k).mono ?_
  rintro e w' ⟨rfl, F', hp, he⟩
  exact ⟨rfl, St.ext HC hF h1 h2 h3 hp he⟩
theorem St.box (h : St PA w X W p s) (HC : ArC PA ft ff fc) (o : Obj) : St PA w (fun k => X k ∨ k = W.heap.size) (W.alloc o) p s := by
  obtain ⟨F, hF, h1, h2, h3⟩ := h
  have hz : (W.alloc o).heap.size = W.heap.size + 1 := by simp
  refine ⟨F, HC.keep hF (Kept.of_below (below_alloc W o) fun _ => False) (fun _ _ q => q), fun k hk => ⟨(h1 k hk).1, ?_⟩, fun k hk => ?_, h3.alloc h3.size o⟩
  · rintro (q | q)
    · exact (h1 k hk).2 q
    · have := HC.old hF k hk
      omega
  · rcases hk with q | q
    · have := h2 k q
      omega
    · omega
end
/-- The page's examples hold, whoever's arena it is. -/
theorem known_a {PA : World → Nat → Ar → (Nat → Prop) → Prop} {copy : FuncId} (HC0 : ArC PA 9 11 copy)
    (HN0 : ∀ w, Calls Try.prog 7 #[.int .i64 3] w fun e w' => ∃ p, e = .returned (.tuple #[.pointer (some ⟨p, 0, none⟩), .int .i64 0]) ∧ St PA w (fun _ => False) w' p (Ar.new 3)) (w : World) :
    Calls Try.prog 6 #[] w fun e w' => e = .returned (.bool true) ∧ Below w.heap.size w w' := by
  have HC := Lib.hid HC0
  have HN := Lib.hid (HN0 w)
  clear HC0 HN0
  have o0 := Ar.ok_new 3
  have o1 := Ar.ok_tk o0
  have o2 := Ar.ok_tk o1
  have o3 := Ar.ok_fr o2 0 1
  have o4 := Ar.ok_tk o3
  have HO := Lib.hid (And.intro o0 (And.intro o1 (And.intro o2 (And.intro o3 o4))))
  clear o0 o1 o2 o3 o4
  have heq : ∀ (a b : Int) (V : World), (binOp .eql 32 (.agg #[.int .i64 a, .int .u64 b]) (.agg #[.int .i64 a, .int .u64 b])).run Try.prog V = .ok (.bool true) V := fun a b V => by rw [eqlH]; simp
  go_enter Try.func6, Try.ntmps6
  go_upto_region 4 with (first
    | (go_at_call 7
       refine HN.out.mono ?_
       rintro e v0 ⟨p, rfl, hst⟩
       have HS0 := Lib.hid hst
       clear hst))
  go_upto_region 5 with (first
    | (go_at_call 9
       refine (HS0.out.take HC.out HO.out.1 (by decide) (by decide)).mono ?_
       rintro e t1 ⟨rfl, hst, hkp⟩
       rw [show (Ar.new 3).tkH = #[.int .i64 0, .int .u64 1] from rfl, show (Ar.new 3).tkE = 0 from rfl]
       have HS1 := Lib.hid (hst.box HC.out (.cells #[.int .i64 0, .int .u64 1] 32))
       have HA1 : Hid ((t1.alloc (.cells #[.int .i64 0, .int .u64 1] 32)).heap[t1.heap.size]? = some (.cells #[.int .i64 0, .int .u64 1] 32 (0, 0))) := Lib.hid (heap_alloc_new t1 _)
       clear hst hkp))
  obtain ⟨bx, hbx⟩ : ∃ b, b = t1.heap.size := ⟨_, rfl⟩
  rw [← hbx] at HS1 HA1 ⊢
  clear hbx
  generalize t1.alloc (.cells #[.int .i64 0, .int .u64 1] 32) = v1 at *
  go_upto_region 6 with (first
    | (go_at_call 9
       refine (HS1.out.take HC.out HO.out.2.1 (by decide) (by decide)).mono ?_
       rintro e t2 ⟨rfl, hst, hkp⟩
       rw [show (Ar.new 3).tk.tkH = #[.int .i64 1, .int .u64 2] from rfl, show (Ar.new 3).tk.tkE = 0 from rfl]
       have HS2 := Lib.hid (hst.box HC.out (.cells #[.int .i64 1, .int .u64 2] 32))
       have HB2 : Hid ((t2.alloc (.cells #[.int .i64 1, .int .u64 2] 32)).heap[t2.heap.size]? = some (.cells #[.int .i64 1, .int .u64 2] 32 (0, 0))) := Lib.hid (heap_alloc_new t2 _)
       have HA2 : Hid ((t2.alloc (.cells #[.int .i64 1, .int .u64 2] 32)).heap[bx]? = some (.cells #[.int .i64 0, .int .u64 1] 32 (0, 0))) := Lib.hid (blk_old ((hkp bx (.inr rfl)).trans HA1.out) _)
       clear hst hkp))
  obtain ⟨by_, hby⟩ : ∃ b, b = t2.heap.size := ⟨_, rfl⟩
  rw [← hby] at HS2 HB2 ⊢
  clear hby
  generalize t2.alloc (.cells #[.int .i64 1, .int .u64 2] 32) = v2 at *
  have xa0 : v2.cell? ⟨bx, 0, none⟩ = some (.int .i64 0) := blk_cell HA2.out 0
  have xa1 : v2.cell? ⟨bx, 1, none⟩ = some (.int .u64 1) := blk_cell HA2.out 1
  go_upto_region 7 with (first
    | (go_at_call 11
       refine (HS2.out.free HC.out HO.out.2.2.1 (by decide) 0 1).mono ?_
       rintro e v3 ⟨rfl, hst, hkp⟩
       rw [show (Ar.new 3).tk.tk.frE 0 1 = 0 from rfl]
       have HS3 := Lib.hid hst
       have HA3 : Hid (v3.heap[bx]? = some (.cells #[.int .i64 0, .int .u64 1] 32 (0, 0))) := Lib.hid ((hkp bx (.inl (.inr rfl))).trans HA2.out)
       have HB3 : Hid (v3.heap[by_]? = some (.cells #[.int .i64 1, .int .u64 2] 32 (0, 0))) := Lib.hid ((hkp by_ (.inr rfl)).trans HB2.out)
       clear hst hkp))
  clear xa0 xa1
  go_upto_region 8 with (first
    | (go_at_call 9
       refine (HS3.out.take HC.out HO.out.2.2.2.1 (by decide) (by decide)).mono ?_
       rintro e t4 ⟨rfl, hst, hkp⟩
       rw [show ((Ar.new 3).tk.tk.fr 0 1).tkH = #[.int .i64 0, .int .u64 3] from rfl, show ((Ar.new 3).tk.tk.fr 0 1).tkE = 0 from rfl]
       have HS4 := Lib.hid (hst.box HC.out (.cells #[.int .i64 0, .int .u64 3] 32))
       have HC4 : Hid ((t4.alloc (.cells #[.int .i64 0, .int .u64 3] 32)).heap[t4.heap.size]? = some (.cells #[.int .i64 0, .int .u64 3] 32 (0, 0))) := Lib.hid (heap_alloc_new t4 _)
       have HA4 : Hid ((t4.alloc (.cells #[.int .i64 0, .int .u64 3] 32)).heap[bx]? = some (.cells #[.int .i64 0, .int .u64 1] 32 (0, 0))) := Lib.hid (blk_old ((hkp bx (.inl (.inr rfl))).trans HA3.out) _)
       have HB4 : Hid ((t4.alloc (.cells #[.int .i64 0, .int .u64 3] 32)).heap[by_]? = some (.cells #[.int .i64 1, .int .u64 2] 32 (0, 0))) := Lib.hid (blk_old ((hkp by_ (.inr rfl)).trans HB3.out) _)
       clear hst hkp))
  obtain ⟨bz, hbz⟩ : ∃ b, b = t4.heap.size := ⟨_, rfl⟩
  rw [← hbz] at HS4 HC4 ⊢
  clear hbz
  generalize t4.alloc (.cells #[.int .i64 0, .int .u64 3] 32) = v4 at *
  have xa0 : v4.cell? ⟨bx, 0, none⟩ = some (.int .i64 0) := blk_cell HA4.out 0
  have xa1 : v4.cell? ⟨bx, 1, none⟩ = some (.int .u64 1) := blk_cell HA4.out 1
  go_upto_region 9 with (first
    | (go_at_call 11
       refine (HS4.out.free HC.out HO.out.2.2.2.2 (by decide) 0 1).mono ?_
       rintro e v5 ⟨rfl, hst, hkp⟩
       rw [show ((Ar.new 3).tk.tk.fr 0 1).tk.frE 0 1 = 14 from rfl]
       have HS5 := Lib.hid hst
       have HA5 : Hid (v5.heap[bx]? = some (.cells #[.int .i64 0, .int .u64 1] 32 (0, 0))) := Lib.hid ((hkp bx (.inl (.inl (.inr rfl)))).trans HA4.out)
       have HB5 : Hid (v5.heap[by_]? = some (.cells #[.int .i64 1, .int .u64 2] 32 (0, 0))) := Lib.hid ((hkp by_ (.inl (.inr rfl))).trans HB4.out)
       have HC5 : Hid (v5.heap[bz]? = some (.cells #[.int .i64 0, .int .u64 3] 32 (0, 0))) := Lib.hid ((hkp bz (.inr rfl)).trans HC4.out)
       clear hst hkp))
  clear xa0 xa1
  have xa0 : v5.cell? ⟨bx, 0, none⟩ = some (.int .i64 0) := blk_cell HA5.out 0
  have xa1 : v5.cell? ⟨bx, 1, none⟩ = some (.int .u64 1) := blk_cell HA5.out 1
  have xb0 : v5.cell? ⟨by_, 0, none⟩ = some (.int .i64 1) := blk_cell HB5.out 0
  have xb1 : v5.cell? ⟨by_, 1, none⟩ = some (.int .u64 2) := blk_cell HB5.out 1
  have xc0 : v5.cell? ⟨bz, 0, none⟩ = some (.int .i64 0) := blk_cell HC5.out 0
  have xc1 : v5.cell? ⟨bz, 1, none⟩ = some (.int .u64 3) := blk_cell HC5.out 1
  go_wp2_with fail
  go_ret
  obtain ⟨_, _, _, _, hb⟩ := HS5.out
  exact ⟨rfl, hb⟩
end Go.Proofs.Ythljpfmonienlaa
