import Derived.Test.YtkmakdhlaenaoaaGm13
import Derived.Test.YtkmakdhlaenaoaaGm8
/- Stage 9: the landed Copy, New. -/
namespace Go.Proofs.Ytkmakdhlaenaoaa
set_option maxRecDepth 100000
open Go.RowKit
theorem Try.infoCL : (Try.prog.info? 113).map (fun i => (i.zero, i.size, i.bytes)) = some (some (.agg #[.int .u64 0, .int .i64 0]), 2, 16) := by kernel_rfl
set_option maxHeartbeats 1000000 in
theorem pclone_any {w : World} {p g n c : Nat} {fd : Int} {fs lv S : Nat} {ha : Nat → Nat} {bf : Nat → Int} {F : Nat → Prop} (h : PX w p g n c fd fs lv S ha bf F) (hn : n ≤ 65536) : Calls Try.prog 67 #[.slice (some ⟨g, 0, none⟩) n c] w fun e w' => ∃ g2 c2, e = .returned (.slice (some ⟨g2, 0, none⟩) n c2) ∧ w.heap.size ≤ g2 ∧ OwnC w' w.heap.size 113 2 (some ⟨g2, 0, none⟩) n c2 (pcell ha bf) ∧ Below w.heap.size w w' := by
  obtain ⟨i0, hi0, hz0, hz1, hz2⟩ := info_parts Try.infoCL
  have HI0 := Lib.hid hi0
  have HZ0 := Lib.hid hz0
  have HZ1 := Lib.hid hz1
  have HZ2 := Lib.hid hz2
  have hpos := h.pos
  have HO4 : Hid (OwnC (w.alloc (.cells #[] 113)) w.heap.size 113 2 (some ⟨w.heap.size, 0, none⟩) 0 0 (fun _ => .int .u64 0)) := Lib.hid (OwnC.fresh w _ _ rfl (Nat.le_refl _) _ _ _)
  have HR4 := Lib.hid (h.step (below_alloc w (.cells #[] 113))).row.rd
  clear hi0 hz0 hz1 hz2 h
  have hnil : ∀ W, (binOp .eql 92 (.slice (some ⟨g, 0, none⟩) n c) (.slice none 0 0)).run Try.prog W = .ok (.bool false) W := fun W => by kernel_rfl
  go_enter Try.func67, Try.ntmps67
  go_wp2_with (first
    | (at_builtin
       refine wpList_append_vals rfl (.tmp 5) (.tmp 6) 92 rfl w.heap.size 113 i0 (.agg #[.int .u64 0, .int .i64 0]) 2 Try.underlying92 HI0.out HZ0.out HZ1.out rfl (by decide) rfl HO4.out rfl HR4.out (fun k _ => pcell_one ha bf k) (by unfold maxLen; omega) (by rw [HZ2.out]; omega) (alloc_le w _) ?_
       intro A2 c2 u5 hown5 hg5 _
       have HO5 : Hid (OwnC u5 w.heap.size 113 2 A2 n c2 (pcell ha bf)) := Lib.hid (by
         rw [Nat.zero_add] at hown5
         exact hown5.same fun k _ => by unfold catV; rw [if_neg (by omega)]; rfl)
       have HB5 : Hid (Below w.heap.size w u5) := Lib.hid ((below_alloc w _).grown hg5 (alloc_le w _) fun k hk => HO4.out.at_ k hk)
       rw [Nat.zero_add]
       clear hown5 hg5))
  go_ret
  obtain ⟨g2, hg2, hgb, _⟩ := HO5.out.lies hpos
  subst hg2
  exact ⟨g2, c2, rfl, hgb, HO5.out, HB5.out⟩
set_option maxHeartbeats 1000000 in
theorem pcopy_any {w : World} {p g n c : Nat} {fd : Int} {fs lv S : Nat} {ha : Nat → Nat} {bf : Nat → Int} {F : Nat → Prop} (h : PX w p g n c fd fs lv S ha bf F) (hn : n ≤ 65536) : Calls Try.prog 40 #[.pointer (some ⟨p, 0, none⟩)] w fun e w' => ∃ b g2 c2, e = .returned (.pointer (some ⟨b, 0, none⟩)) ∧ PX w' b g2 n c2 fd fs lv S ha bf (fun k => k = b ∨ k = g2) ∧ w.heap.size ≤ b ∧ w.heap.size ≤ g2 ∧ Below w.heap.size w w' := by
  have HX := Lib.hid h
  have hpos := h.pos
  have hn0 : ((n : Int) == 0) = false := by simp; omega
  have x0 : w.cell? ⟨p, 0, none⟩ = some (.slice (some ⟨g, 0, none⟩) n c) := blk_cell h.blk 0
  clear h
  go_enter Try.func40, Try.ntmps40
  go_upto_region 3 with (first
    | (go_at_call 44
       refine (psize_c w p _ n c x0).mono ?_
       rintro e u1 ⟨rfl, hb⟩
       have HX1 := Lib.hid (HX.out.step hb)
       have HB1 := Lib.hid hb
       clear hb))
  clear x0
  go_upto_region 4 with (first
    | (refine wpList_load_row rfl 94 (.tmp 8) rfl p rfl 94 #[.slice (some ⟨g, 0, none⟩) n c, .int .i64 fd, .int .i64 (fs : Int), .int .i64 (lv : Int), .int .u64 (S : Int)] (0, 0) _ HX1.out.blk Try.underlying94 rfl (by kernel_rfl) ?_))
  have HM2 : Hid ((u1.alloc (.cells #[.slice (some ⟨g, 0, none⟩) n c, .int .i64 fd, .int .i64 (fs : Int), .int .i64 (lv : Int), .int .u64 (S : Int)] 94)).heap[u1.heap.size]? = some (.cells #[.slice (some ⟨g, 0, none⟩) n c, .int .i64 fd, .int .i64 (fs : Int), .int .i64 (lv : Int), .int .u64 (S : Int)] 94 (0, 0))) := Lib.hid (heap_alloc_new u1 _)
  have HB2 := Lib.hid (HB1.out.alloc HB1.out.size (.cells #[.slice (some ⟨g, 0, none⟩) n c, .int .i64 fd, .int .i64 (fs : Int), .int .i64 (lv : Int), .int .u64 (S : Int)] 94))
  have HX2 := Lib.hid (HX1.out.step (below_alloc u1 (.cells #[.slice (some ⟨g, 0, none⟩) n c, .int .i64 fd, .int .i64 (fs : Int), .int .i64 (lv : Int), .int .u64 (S : Int)] 94)))
  have HBL : Hid (w.heap.size ≤ u1.heap.size) := Lib.hid HB1.out.size
  obtain ⟨b, hb⟩ : ∃ b, b = u1.heap.size := ⟨_, rfl⟩
  rw [← hb] at HM2 HBL ⊢
  clear hb HX1 HB1
  generalize u1.alloc (.cells #[.slice (some ⟨g, 0, none⟩) n c, .int .i64 fd, .int .i64 (fs : Int), .int .i64 (lv : Int), .int .u64 (S : Int)] 94) = u2 at *
  have x0 : u2.cell? ⟨p, 0, none⟩ = some (.slice (some ⟨g, 0, none⟩) n c) := blk_cell HX2.out.blk 0
  go_upto_region 5 with (first
    | (go_at_call 67
       refine (pclone_any HX2.out hn).mono ?_
       rintro e u3 ⟨g2, c2, rfl, hg2, ho, hb⟩
       have HM3 : Hid (u3.heap[b]? = some (.cells #[.slice (some ⟨g, 0, none⟩) n c, .int .i64 fd, .int .i64 (fs : Int), .int .i64 (lv : Int), .int .u64 (S : Int)] 94 (0, 0))) := Lib.hid ((hb.block _ (lt_heap HM2.out)).trans HM2.out)
       have HO3 := Lib.hid ho
       have HB3 := Lib.hid (HB2.out.trans (hb.mono HB2.out.size))
       have HG2 : Hid (w.heap.size ≤ g2) := Lib.hid (Nat.le_trans HB2.out.size hg2)
       have HBG : Hid (b ≠ g2) := Lib.hid (by have := lt_heap HM2.out; omega)
       have x3 : u3.cell? ⟨b, 0, none⟩ = some (.slice (some ⟨g, 0, none⟩) n c) := blk_cell HM3.out 0
       have y3 := blk_free HM3.out 0
       clear hb ho hg2))
  have HM4 : Hid ((u3.setCell ⟨b, 0, none⟩ (.slice (some ⟨g2, 0, none⟩) n c2)).heap[b]? = some (.cells #[.slice (some ⟨g2, 0, none⟩) n c2, .int .i64 fd, .int .i64 (fs : Int), .int .i64 (lv : Int), .int .u64 (S : Int)] 94 (0, 0))) := Lib.hid (blk_set HM3.out 0 _)
  have HO4 : Hid (OwnC (u3.setCell ⟨b, 0, none⟩ (.slice (some ⟨g2, 0, none⟩) n c2)) 0 113 2 (some ⟨g2, 0, none⟩) n c2 (pcell ha bf)) := Lib.hid ((HO3.out.le (Nat.zero_le _)).block (Below.heap_setCell u3 ⟨b, 0, none⟩ _ g2 HBG.out.symm))
  have HB4 := Lib.hid (HB3.out.setCell (p := ⟨b, 0, none⟩) HBL.out (.slice (some ⟨g2, 0, none⟩) n c2))
  have hgl : g2 < u3.heap.size := by
    obtain ⟨g', e, _, hl, _⟩ := HO3.out.lies hpos
    injection e with e
    injection e with e
    omega
  have HGL : Hid (g2 < (u3.setCell ⟨b, 0, none⟩ (.slice (some ⟨g2, 0, none⟩) n c2)).heap.size) := Lib.hid (by simpa using hgl)
  clear x0 x3 y3 hgl
  go_wp2_with fail
  go_ret
  refine ⟨b, g2, c2, rfl, ⟨HM4.out, HO4.out, .inl rfl, .inr rfl, fun k hk => ?_, hpos⟩, HBL.out, HG2.out, HB4.out⟩
  rcases hk with rfl | rfl
  · exact lt_heap HM4.out
  · exact HGL.out
theorem pnew_bad (w : World) (n : Int) (h : n < 1 ∨ 65536 < n) : Calls Try.prog 20 #[.int .i64 n] w (ret (.tuple #[.pointer none, .int .i64 2]) w) := by
  rcases h with h | h
  · go_enter Try.func20, Try.ntmps20
    go_wp2_with fail
    go_ret2
    exact ⟨rfl, Below.refl _ _⟩
  · have h2 : ¬ n < 1 := by omega
    go_enter Try.func20, Try.ntmps20
    go_wp2_with fail
    go_ret2
    exact ⟨rfl, Below.refl _ _⟩
set_option maxHeartbeats 1000000 in
theorem pnew_any (w : World) (n : Nat) (h1 : 1 ≤ n) (h2 : n ≤ 65536) : Calls Try.prog 20 #[.int .i64 (n : Int)] w fun e w' => ∃ p g, e = .returned (.tuple #[.pointer (some ⟨p, 0, none⟩), .int .i64 0]) ∧ PX w' p g n n (-1) 0 0 0 (fun _ => 0) (fun _ => 0) (fun k => k = p ∨ k = g) ∧ w.heap.size ≤ p ∧ w.heap.size ≤ g ∧ Below w.heap.size w w' := by
  obtain ⟨i0, hi0, hz0, hz1, hz2⟩ := info_parts Try.infoCL
  have hmk : ∀ W : World, ∃ w', (Instr.makeSlice 92 (.int .i64 (n : Int)) (.int .i64 (n : Int))).run Try.prog W = .ok (.slice (some ⟨W.heap.size, 0, none⟩) n n) w' ∧ OwnC w' W.heap.size 113 2 (some ⟨W.heap.size, 0, none⟩) n n (pcell (fun _ => 0) (fun _ => 0)) ∧ W.grownBy w' none := fun W => by
    obtain ⟨w', h1, h2, h3⟩ := run_make_full (P := Try.prog) (w := W) W.heap.size 92 113 i0 (.agg #[.int .u64 0, .int .i64 0]) 2 Try.underlying92 hi0 hz0 hz1 .i64 .i64 n (by rw [hz2]; omega) (by unfold maxLen; omega) (Nat.le_refl _)
    refine ⟨w', h1, ?_, h3⟩
    unfold OwnC
    have e1 : (madeCells (Value.agg #[.int .u64 0, .int .i64 0]).cells (n * 2)).toList = vals (n * 2) (pcell (fun _ => 0) (fun _ => 0)) := by
      refine vals_eq (by simp [size_madeCells]) fun k hk => ?_
      show (madeCells #[.int .u64 0, .int .i64 0] (n * 2)).toList[k]? = _
      unfold pcell
      simp [madeCells]
      refine ⟨k, List.getElem?_range hk, ?_⟩
      rcases (show k % 2 = 0 ∨ k % 2 = 1 by omega) with e | e
      · rw [e]; rfl
      · rw [e]; rfl
    rw [← e1]
    exact h2
  obtain ⟨u1, hm, ho, hg⟩ := hmk w
  have HO := Lib.hid ho
  have HB : Hid (Below w.heap.size w u1) := Lib.hid ((Below.refl _ _).grown hg (Nat.le_refl _) fun _ h => nomatch h)
  have hbd : ∀ (A : Option Addr) (w : World), (Instr.build 94 #[(0, .slice A n n), (1, .int .i64 (-1))]).run Try.prog w = .ok (.agg #[.slice A n n, .int .i64 (-1), .int .i64 0, .int .i64 0, .int .u64 0]) w := fun A w => by kernel_rfl
  clear ho hg hmk hi0 hz0 hz1 hz2
  have n1 : ¬ (n : Int) < 1 := by omega
  have n2 : ¬ (65536 : Int) < (n : Int) := by omega
  go_enter Try.func20, Try.ntmps20
  go_wp2_with fail
  go_ret2
  have hl := HB.out.size
  obtain ⟨g', e, _, hgl, _⟩ := HO.out.lies h1
  injection e with e
  injection e with e
  have hsz : (u1.alloc (.cells #[.slice (some ⟨w.heap.size, 0, none⟩) n n, .int .i64 (-1), .int .i64 0, .int .i64 0, .int .u64 0] 94)).heap.size = u1.heap.size + 1 := by simp
  refine ⟨u1.heap.size, rfl, w.heap.size, ⟨heap_alloc_new u1 _, (HO.out.alloc _).le (Nat.zero_le _), .inl rfl, .inr rfl, fun k hk => ?_, h1⟩, hl, Nat.le_refl _, HB.out.alloc hl _⟩
  rcases hk with rfl | rfl
  · omega
  · omega
end Go.Proofs.Ytkmakdhlaenaoaa
/- Stage 9: an arena, whoever's: what holds of it, and what its calls do; the document's is one. -/
namespace Go.Proofs.Ytkmakdhlaenaoaa
set_option maxRecDepth 100000
open Go.RowKit
namespace Ar
/-- Behind Take; the handle and the error that are told. -/
def tk (s : Ar) : Ar := match s.which with
  | none => s
  | some i => s.taken i
def tkH (s : Ar) : Array Value := match s.which with
  | none => #[.int .i64 0, .int .u64 0]
  | some i => #[.int .i64 (i : Int), .int .u64 ((s.serial : Int) + 1)]
def tkE (s : Ar) : Int := match s.which with
  | none => 9
  | some _ => 0
/-- Behind Free; the error that is told. -/
def fr (s : Ar) (i : Int) (k : Nat) : Ar := if s.live i k = true then s.gone i.toNat else s
def frE (s : Ar) (i : Int) (k : Nat) : Int := if s.live i k = true then 0 else 14
theorem ok_tk {s : Ar} (hs : s.Ok) : s.tk.Ok := by
  unfold tk
  split
  · exact hs
  · rename_i i h
    exact ok_taken hs h
theorem tk_len (s : Ar) : s.tk.has.length = s.has.length := by
  unfold tk
  split
  · rfl
  · exact List.length_set
theorem tk_serial (s : Ar) : s.tk.serial ≤ s.serial + 1 := by
  unfold tk
  split
  · omega
  · exact Nat.le_refl _
theorem ok_fr {s : Ar} (hs : s.Ok) (i : Int) (k : Nat) : (s.fr i k).Ok := by
  unfold fr
  split
  · rename_i h
    obtain ⟨_, h1, h2⟩ := live_iff.1 h
    exact ok_gone hs (by rw [h2]; exact h1)
  · exact hs
theorem fr_len (s : Ar) (i : Int) (k : Nat) : (s.fr i k).has.length = s.has.length := by
  unfold fr
  split
  · exact List.length_set
  · rfl
theorem fr_serial (s : Ar) (i : Int) (k : Nat) : (s.fr i k).serial = s.serial := by
  unfold fr
  split <;> rfl
end Ar
/-- A footprint that has grown by new blocks alone; nothing old was turned but it. -/
structure Ext (F F' : Nat → Prop) (w w' : World) : Prop where
  sub : ∀ k, F' k → F k ∨ w.heap.size ≤ k ∧ k < w'.heap.size
  kept : Kept F w w'
/-- An arena, whoever's: PA w p s F: at p stands what is s, in the blocks of F. -/
structure ArC (PA : World → Nat → Ar → (Nat → Prop) → Prop) (take free copy : FuncId) : Prop where
  keep : ∀ {w w' : World} {p : Nat} {s : Ar} {F R : Nat → Prop}, PA w p s F → Kept R w w' → (∀ k, F k → ¬ R k) → PA w' p s F
  old : ∀ {w : World} {p : Nat} {s : Ar} {F : Nat → Prop}, PA w p s F → ∀ k, F k → k < w.heap.size
  take : ∀ {w : World} {p : Nat} {s : Ar} {F : Nat → Prop}, PA w p s F → s.Ok → s.has.length ≤ 65536 → s.serial ≤ 4611686018427387904 →
    Calls Try.prog take #[.pointer (some ⟨p, 0, none⟩)] w fun e w' => e = .returned (.tuple #[.agg s.tkH, .int .i64 s.tkE]) ∧ ∃ F', PA w' p s.tk F' ∧ Ext F F' w w'
  free : ∀ {w : World} {p : Nat} {s : Ar} {F : Nat → Prop}, PA w p s F → s.Ok → s.has.length ≤ 65536 → ∀ (i : Int) (k : Nat),
    Calls Try.prog free #[.pointer (some ⟨p, 0, none⟩), .agg #[.int .i64 i, .int .u64 (k : Int)]] w fun e w' => e = .returned (.int .i64 (s.frE i k)) ∧ ∃ F', PA w' p (s.fr i k) F' ∧ Ext F F' w w'
  copy : ∀ {w : World} {p : Nat} {s : Ar} {F : Nat → Prop}, PA w p s F → s.Ok → s.has.length ≤ 65536 →
    Calls Try.prog copy #[.pointer (some ⟨p, 0, none⟩)] w fun e w' => ∃ b F', e = .returned (.pointer (some ⟨b, 0, none⟩)) ∧ PA w' b s F' ∧ (∀ k, F' k → F k ∨ w.heap.size ≤ k ∧ k < w'.heap.size) ∧ Below w.heap.size w w'
theorem Ext.of_below {F : Nat → Prop} {w w' : World} (h : Below w.heap.size w w') : Ext F F w w' := ⟨fun _ h => .inl h, Kept.of_below h _⟩
/-- The document's is one. -/
theorem rArC : ArC RA 70 50 53 := by
  refine ⟨fun h hk hd => h.keep hk hd, fun h => h.old, ?_, ?_, ?_⟩
  · intro w q s G h hs hn hS
    refine (rtake_any hs h hn hS).mono ?_
    have hq : G q := by
      obtain ⟨A, c, B, d, hx⟩ := h
      exact hx.mem
    rintro e w' (⟨hw, rfl, hb⟩ | ⟨i, hw, rfl, ha, hk⟩)
    · have e1 : s.tk = s := by unfold Ar.tk; rw [hw]
      have e2 : s.tkH = #[.int .i64 0, .int .u64 0] := by unfold Ar.tkH; rw [hw]
      have e3 : s.tkE = 9 := by unfold Ar.tkE; rw [hw]
      rw [e1, e2, e3]
      exact ⟨rfl, G, h.keep (Kept.of_below hb fun _ => False) fun _ _ q => q, Ext.of_below hb⟩
    · have e1 : s.tk = s.taken i := by unfold Ar.tk; rw [hw]
      have e2 : s.tkH = #[.int .i64 (i : Int), .int .u64 ((s.serial : Int) + 1)] := by unfold Ar.tkH; rw [hw]
      have e3 : s.tkE = 0 := by unfold Ar.tkE; rw [hw]
      rw [e1, e2, e3]
      exact ⟨rfl, _, ha, fun _ h => h, hk.mono fun k _ e => by rw [e]; exact hq⟩
  · intro w q s G h hs hn i k
    refine (rfree_any hs h hn i k).mono ?_
    have hq : G q := by
      obtain ⟨A, c, B, d, hx⟩ := h
      exact hx.mem
    rintro e w' (⟨hl, rfl, hb⟩ | ⟨hl, rfl, ha, hk⟩)
    · have e1 : s.fr i k = s := by unfold Ar.fr; rw [hl]; rfl
      have e2 : s.frE i k = 14 := by unfold Ar.frE; rw [hl]; rfl
      rw [e1, e2]
      exact ⟨rfl, G, h.keep (Kept.of_below hb fun _ => False) fun _ _ q => q, Ext.of_below hb⟩
    · have e1 : s.fr i k = s.gone i.toNat := by unfold Ar.fr; rw [if_pos hl]
      have e2 : s.frE i k = 0 := by unfold Ar.frE; rw [if_pos hl]
      rw [e1, e2]
      exact ⟨rfl, _, ha, fun _ h => h, hk.mono fun k _ e => by rw [e]; exact hq⟩
  · intro w q s G h hs hn
    refine (rcopy_any h).mono ?_
    rintro e w' ⟨b, rfl, hl, ha, hb⟩
    exact ⟨b, _, rfl, ha, fun k hk => hk.imp id fun e => ⟨by rw [e]; exact hl, ha.old k (.inr e)⟩, hb⟩
end Go.Proofs.Ytkmakdhlaenaoaa
