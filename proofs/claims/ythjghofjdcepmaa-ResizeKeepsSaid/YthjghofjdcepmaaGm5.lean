import Derived.Test.YthjghofjdcepmaaGm4
/- Stage 13: the document's own, Drop, Put. -/
namespace Go.Proofs.Ythjghofjdcepmaa
set_option maxRecDepth 100000
open Go.RowKit Go.Shelf
theorem Try.infoBO : (Try.prog.info? 4).map (fun i => (i.zero, i.size, i.bytes)) = some (some (.bool false), 1, 1) := by kernel_rfl
theorem Try.infoEN : (Try.prog.info? 34).map (fun i => (i.zero, i.size, i.bytes)) = some (some (.agg #[.int .u64 0, .int .u32 0]), 2, 16) := by kernel_rfl
/-- The table's rows in memory of its own, above B. -/
structure RTO (W : World) (B q n gF cF gM cM gE cE : Nat) (fF fM fE : Nat → Value) : Prop where
  blk : W.heap[q]? = some (.cells #[.slice (some ⟨gF, 0, none⟩) n cF, .slice (some ⟨gM, 0, none⟩) n cM, .slice (some ⟨gE, 0, none⟩) n cE] 69 (0, 0))
  oF : OwnC W B 4 1 (some ⟨gF, 0, none⟩) n cF fF
  oM : OwnC W B 4 1 (some ⟨gM, 0, none⟩) n cM fM
  oE : OwnC W B 34 2 (some ⟨gE, 0, none⟩) n cE fE
  ne : gF ≠ gM ∧ gF ≠ gE ∧ gM ≠ gE
  low : B ≤ gF ∧ B ≤ gM ∧ B ≤ gE
  qB : q < B
  pos : 0 < n
section
variable {W : World} {B q n gF cF gM cM gE cE : Nat} {fF fM fE : Nat → Value}
theorem RTO.setF (h : RTO W B q n gF cF gM cM gE cE fF fM fE) (p : Nat) (v : Value) : RTO (W.setCell ⟨gF, p, none⟩ v) B q n gF cF gM cM gE cE (updV fF p v) fM fE := by
  have h1 := h.low
  have h2 := h.qB
  exact ⟨(Below.heap_setCell W ⟨gF, p, none⟩ v q (by show q ≠ gF; omega)).trans h.blk, h.oF.set_ p v, h.oM.block (Below.heap_setCell W ⟨gF, p, none⟩ v gM h.ne.1.symm), h.oE.block (Below.heap_setCell W ⟨gF, p, none⟩ v gE h.ne.2.1.symm), h.ne, h.low, h.qB, h.pos⟩
theorem RTO.setM (h : RTO W B q n gF cF gM cM gE cE fF fM fE) (p : Nat) (v : Value) : RTO (W.setCell ⟨gM, p, none⟩ v) B q n gF cF gM cM gE cE fF (updV fM p v) fE := by
  have h1 := h.low
  have h2 := h.qB
  exact ⟨(Below.heap_setCell W ⟨gM, p, none⟩ v q (by show q ≠ gM; omega)).trans h.blk, h.oF.block (Below.heap_setCell W ⟨gM, p, none⟩ v gF h.ne.1), h.oM.set_ p v, h.oE.block (Below.heap_setCell W ⟨gM, p, none⟩ v gE h.ne.2.2.symm), h.ne, h.low, h.qB, h.pos⟩
theorem RTO.setE (h : RTO W B q n gF cF gM cM gE cE fF fM fE) (p : Nat) (a b : Value) : RTO (W.setCells gE p [a, b]) B q n gF cF gM cM gE cE fF fM (updV (updV fE p a) (p + 1) b) := by
  have h1 := h.low
  have h2 := h.qB
  exact ⟨(other_setCells (by omega) _ _ _).trans h.blk, h.oF.block (other_setCells h.ne.2.1 _ _ _), h.oM.block (other_setCells h.ne.2.2 _ _ _), (h.oE.set_ p a).set_ (p + 1) b, h.ne, h.low, h.qB, h.pos⟩
theorem RTO.atF (h : RTO W B q n gF cF gM cM gE cE fF fM fE) {p : Nat} (hp : p < n) : W.cell? ⟨gF, p, none⟩ = some (fF p) ∧ W.frozen? ⟨gF, p, none⟩ = false := by
  obtain ⟨g, e, _, _, hc, hf⟩ := h.oF.lies h.pos
  injection e with e
  injection e with e
  subst e
  exact ⟨hc p (by omega), hf p⟩
theorem RTO.atM (h : RTO W B q n gF cF gM cM gE cE fF fM fE) {p : Nat} (hp : p < n) : W.cell? ⟨gM, p, none⟩ = some (fM p) ∧ W.frozen? ⟨gM, p, none⟩ = false := by
  obtain ⟨g, e, _, _, hc, hf⟩ := h.oM.lies h.pos
  injection e with e
  injection e with e
  subst e
  exact ⟨hc p (by omega), hf p⟩
theorem RTO.atE (h : RTO W B q n gF cF gM cM gE cE fF fM fE) {p : Nat} (hp : p < n * 2) : W.cell? ⟨gE, p, none⟩ = some (fE p) ∧ W.frozen? ⟨gE, p, none⟩ = false := by
  obtain ⟨g, e, _, _, hc, hf⟩ := h.oE.lies h.pos
  injection e with e
  injection e with e
  subst e
  exact ⟨hc p (by omega), hf p⟩
theorem RTO.there (h : RTO W B q n gF cF gM cM gE cE fF fM fE) {p : Nat} (hp : p < n) : W.there gE (p * 2) 2 := fun k hk => by
  obtain ⟨h1, h2⟩ := h.atE (p := p * 2 + k) (by omega)
  exact ⟨by rw [h1]; rfl, h2⟩
theorem RTO.caps (h : RTO W B q n gF cF gM cM gE cE fF fM fE) : (n ≤ cF ∧ cF ≤ 9223372036854775807) ∧ (n ≤ cM ∧ cM ≤ 9223372036854775807) ∧ n ≤ cE ∧ cE ≤ 9223372036854775807 := by
  have h1 := h.oF.cap_le
  have h2 := h.oM.cap_le
  have h3 := h.oE.cap_le
  unfold maxLen at h1 h2 h3
  exact ⟨⟨h.oF.cap, by omega⟩, ⟨h.oM.cap, by omega⟩, h.oE.cap, by omega⟩
theorem RTO.keep {R : Nat → Prop} {W' : World} (h : RTO W B q n gF cF gM cM gE cE fF fM fE) (hk : Kept R W W') (hR : ¬ R q ∧ ∀ k, B ≤ k → ¬ R k) : RTO W' B q n gF cF gM cM gE cE fF fM fE := by
  obtain ⟨_, e1, _, l1, _⟩ := h.oF.lies h.pos
  obtain ⟨_, e2, _, l2, _⟩ := h.oM.lies h.pos
  obtain ⟨_, e3, _, l3, _⟩ := h.oE.lies h.pos
  injection e1 with e1
  injection e1 with e1
  injection e2 with e2
  injection e2 with e2
  injection e3 with e3
  injection e3 with e3
  subst e1
  subst e2
  subst e3
  exact ⟨(hk.block q (lt_heap h.blk) hR.1).trans h.blk, h.oF.block (hk.block _ l1 (hR.2 _ h.low.1)), h.oM.block (hk.block _ l2 (hR.2 _ h.low.2.1)), h.oE.block (hk.block _ l3 (hR.2 _ h.low.2.2)), h.ne, h.low, h.qB, h.pos⟩
theorem RTO.drew (h : RTO W B q n gF cF gM cM gE cE fF fM fE) : RTO W.drew B q n gF cF gM cM gE cE fF fM fE := ⟨h.blk, h.oF.drew, h.oM.drew, h.oE.drew, h.ne, h.low, h.qB, h.pos⟩
theorem rdg2 {W : World} {base g n c : Nat} {e : TypeId} {f : Nat → Value} (h : OwnC W base e 2 (some ⟨g, 0, none⟩) n c f) (hn : 0 < n) {G : Nat → Prop} (hG : ∀ k, base ≤ k → k < W.heap.size → G k) : RdG W G (some ⟨g, 0, none⟩) (n * 2) f := by
  obtain ⟨g', e, hb, hl, hc, _⟩ := h.lies hn
  injection e with e
  injection e with e
  subst e
  exact .inr ⟨g, 0, rfl, hG g hb hl, hl, fun k hk => by rw [Nat.zero_add]; exact hc k hk⟩
/-- It stands for a table again. -/
theorem RTO.rt {s : Tb} (h : RTO W B q s.n gF cF gM cM gE cE fF fM fE) (hF : ∀ k, k < s.n → flg s.ful k = fF k) (hM : ∀ k, k < s.n → flg s.mrk k = fM k) (hE : ∀ k, k < s.n * 2 → ecell s.eh s.ew k = fE k) : RT W q (some ⟨gF, 0, none⟩) cF (some ⟨gM, 0, none⟩) cM (some ⟨gE, 0, none⟩) cE s (fun k => k = q ∨ B ≤ k ∧ k < W.heap.size) := by
  obtain ⟨c1, c2, c3⟩ := h.caps
  have h9 := h.qB
  refine ⟨h.blk, c1, c2, c3, (h.oF.rdg fun k a b => ⟨.inr ⟨a, b⟩, by omega⟩).same hF, (h.oM.rdg fun k a b => ⟨.inr ⟨a, b⟩, by omega⟩).same hM, (rdg2 h.oE h.pos fun k a b => ⟨.inr ⟨a, b⟩, by omega⟩).same hE, .inl rfl, fun k hk => ?_⟩
  rcases hk with rfl | hk
  · exact lt_heap h.blk
  · exact hk.2
end
section
variable {w w' : World} {q : Nat} {AF AM AE : Option Addr} {cF cM cE : Nat} {s : Tb} {G : Nat → Prop}
set_option maxHeartbeats 2000000 in
theorem rown_any (h : RT w q AF cF AM cM AE cE s G) (hs : s.Ok) : Calls Try.prog 65 #[.pointer (some ⟨q, 0, none⟩)] w fun e w' => e = .returned (.tuple #[]) ∧ ∃ gF cF' gM cM' gE cE', RTO w' w.heap.size q s.n gF cF' gM cM' gE cE' (flg s.ful) (flg s.mrk) (ecell s.eh s.ew) ∧ Kept (fun k => k = q) w w' := by
  obtain ⟨iB, hi, hz, hy, hx⟩ := info_parts Try.infoBO
  have HIB := Lib.hid hi
  have HZB := Lib.hid hz
  have HYB := Lib.hid hy
  have HXB := Lib.hid hx
  clear hi hz hy hx
  obtain ⟨iE, hi, hz, hy, hx⟩ := info_parts Try.infoEN
  have HIE := Lib.hid hi
  have HZE := Lib.hid hz
  have HYE := Lib.hid hy
  have HXE := Lib.hid hx
  clear hi hz hy hx
  have HQBw := Lib.hid h.blk
  have HQw := Lib.hid (lt_heap h.blk)
  have HKw := Lib.hid (Kept.refl (fun k => k = q) w)
  have HFF := Lib.hid h.fF
  have HFM := Lib.hid h.fM
  have HFE := Lib.hid h.fE
  have hpos := hs.pos
  have htop := hs.top
  obtain ⟨cF0, hcF⟩ : ∃ c, c = cF := ⟨_, rfl⟩
  obtain ⟨cM0, hcM⟩ : ∃ c, c = cM := ⟨_, rfl⟩
  obtain ⟨cE0, hcE⟩ : ∃ c, c = cE := ⟨_, rfl⟩
  obtain ⟨n, hn⟩ : ∃ n, n = s.n := ⟨_, rfl⟩
  have HN := Lib.hid hn
  rw [← hn] at HQBw hpos htop ⊢
  rw [← hcF, ← hcM, ← hcE] at HQBw
  clear hcF hcM hcE hn h hs
  go_enter Try.func65, Try.ntmps65
  have HO0F : Hid (OwnC (w.alloc (.cells #[] 4)) w.heap.size 4 1 (some ⟨w.heap.size, 0, none⟩) 0 0 (fun _ => .int .u64 0)) := Lib.hid (OwnC.fresh w _ _ rfl (Nat.le_refl _) _ _ _)
  have HRF : Hid (RdC (w.alloc (.cells #[] 4)) (w.alloc (.cells #[] 4)).heap.size AF (n * 1) (flg s.ful)) := Lib.hid (by
    rw [Nat.mul_one, HN.out]; exact (HFF.out.keep (Kept.of_below (below_alloc w _) fun k => k = q) fun _ h => h.2).rdc)
  have xF : (w.alloc (.cells #[] 4)).cell? ⟨q, 0, none⟩ = some (.slice AF n cF0) := ((below_alloc w (.cells #[] 4)).cell (p := ⟨q, 0, none⟩) HQw.out).trans (blk_cell HQBw.out 0)
  go_upto_region 1 with (first
    | (at_builtin
       refine wpList_append_vals rfl (.tmp 3) (.tmp 7) 66 rfl w.heap.size 4 iB (.bool false) 1 Try.underlying66 HIB.out HZB.out HYB.out rfl (by decide) rfl HO0F.out rfl HRF.out (fun k _ => rfl) (by unfold maxLen; omega) (by rw [HXB.out]; omega) (alloc_le w _) ?_
       intro NF cF uF hown hg _
       have HOF : Hid (OwnC uF w.heap.size 4 1 NF n cF (flg s.ful)) := Lib.hid (by
         rw [Nat.zero_add] at hown
         exact hown.same fun k _ => by unfold catV; rw [if_neg (by omega)]; rfl)
       have HBF : Hid (Below w.heap.size w uF) := Lib.hid ((below_alloc w _).grown hg (alloc_le w _) fun k hk => HO0F.out.at_ k hk)
       rw [Nat.zero_add]
       have hqF : uF.heap[q]? = some (.cells #[.slice AF n cF0, .slice AM n cM0, .slice AE n cE0] 69 (0, 0)) := (HBF.out.block q HQw.out).trans HQBw.out
       have HQuF := Lib.hid hqF
       have yF : uF.cell? ⟨q, 0, none⟩ = some (.slice AF n cF0) := blk_cell hqF 0
       have zF : uF.frozen? ⟨q, 0, none⟩ = false := blk_free hqF 0

       clear hown hg hqF))
  obtain ⟨gF, rfl, hgb, hgl, _, _⟩ := HOF.out.lies hpos
  have HGBF := Lib.hid hgb
  have HGLF := Lib.hid hgl
  have HGQF : Hid (gF ≠ q) := Lib.hid (by have := HQw.out; omega)
  have HQBw1 : Hid ((uF.setCell ⟨q, 0, none⟩ (.slice (some ⟨gF, 0, none⟩) n cF)).heap[q]? = some (.cells #[.slice (some ⟨gF, 0, none⟩) n cF, .slice AM n cM0, .slice AE n cE0] 69 (0, 0))) := Lib.hid (blk_set HQuF.out 0 _)
  have HWF : Hid (OwnC (uF.setCell ⟨q, 0, none⟩ (.slice (some ⟨gF, 0, none⟩) n cF)) w.heap.size 4 1 (some ⟨gF, 0, none⟩) n cF (flg s.ful)) := Lib.hid (HOF.out.block (Below.heap_setCell uF ⟨q, 0, none⟩ _ gF HGQF.out))
  have HKw1 : Hid (Kept (fun k => k = q) w (uF.setCell ⟨q, 0, none⟩ (.slice (some ⟨gF, 0, none⟩) n cF))) := Lib.hid ((HKw.out.step HBF.out).setCell (p := ⟨q, 0, none⟩) (.inl rfl) _)
  have HSZw1 : Hid (gF < (uF.setCell ⟨q, 0, none⟩ (.slice (some ⟨gF, 0, none⟩) n cF)).heap.size ∧ w.heap.size ≤ (uF.setCell ⟨q, 0, none⟩ (.slice (some ⟨gF, 0, none⟩) n cF)).heap.size) := Lib.hid (by
    have := HBF.out.size
    simp
    exact ⟨hgl, this⟩)
  have HQw1 : Hid (q < (uF.setCell ⟨q, 0, none⟩ (.slice (some ⟨gF, 0, none⟩) n cF)).heap.size) := Lib.hid (Nat.lt_of_lt_of_le HQw.out HSZw1.out.2)
  clear xF yF zF hgb hgl HO0F HRF HQuF HOF HBF
  generalize uF.setCell ⟨q, 0, none⟩ (.slice (some ⟨gF, 0, none⟩) n cF) = w1 at *
  have HOF := HWF
  clear HWF
  have HO0M : Hid (OwnC (w1.alloc (.cells #[] 4)) w1.heap.size 4 1 (some ⟨w1.heap.size, 0, none⟩) 0 0 (fun _ => .int .u64 0)) := Lib.hid (OwnC.fresh w1 _ _ rfl (Nat.le_refl _) _ _ _)
  have HRM : Hid (RdC (w1.alloc (.cells #[] 4)) (w1.alloc (.cells #[] 4)).heap.size AM (n * 1) (flg s.mrk)) := Lib.hid (by
    rw [Nat.mul_one, HN.out]; exact (HFM.out.keep (HKw1.out.alloc _) fun _ h => h.2).rdc)
  have xM : (w1.alloc (.cells #[] 4)).cell? ⟨q, 1, none⟩ = some (.slice AM n cM0) := ((below_alloc w1 (.cells #[] 4)).cell (p := ⟨q, 1, none⟩) HQw1.out).trans (blk_cell HQBw1.out 1)
  go_upto_region 2 with (first
    | (at_builtin
       refine wpList_append_vals rfl (.tmp 12) (.tmp 16) 66 rfl w1.heap.size 4 iB (.bool false) 1 Try.underlying66 HIB.out HZB.out HYB.out rfl (by decide) rfl HO0M.out rfl HRM.out (fun k _ => rfl) (by unfold maxLen; omega) (by rw [HXB.out]; omega) (alloc_le w1 _) ?_
       intro NM cM uM hown hg _
       have HOM : Hid (OwnC uM w1.heap.size 4 1 NM n cM (flg s.mrk)) := Lib.hid (by
         rw [Nat.zero_add] at hown
         exact hown.same fun k _ => by unfold catV; rw [if_neg (by omega)]; rfl)
       have HBM : Hid (Below w1.heap.size w1 uM) := Lib.hid ((below_alloc w1 _).grown hg (alloc_le w1 _) fun k hk => HO0M.out.at_ k hk)
       rw [Nat.zero_add]
       have hqM : uM.heap[q]? = some (.cells #[.slice (some ⟨gF, 0, none⟩) n cF, .slice AM n cM0, .slice AE n cE0] 69 (0, 0)) := (HBM.out.block q HQw1.out).trans HQBw1.out
       have HQuM := Lib.hid hqM
       have yM : uM.cell? ⟨q, 1, none⟩ = some (.slice AM n cM0) := blk_cell hqM 1
       have zM : uM.frozen? ⟨q, 1, none⟩ = false := blk_free hqM 1
       have HOFM : Hid (OwnC uM w.heap.size 4 1 (some ⟨gF, 0, none⟩) n cF (flg s.ful)) := Lib.hid (HOF.out.below HBM.out)
       clear hown hg hqM))
  obtain ⟨gM, rfl, hgb, hgl, _, _⟩ := HOM.out.lies hpos
  have HGBM := Lib.hid hgb
  have HGLM := Lib.hid hgl
  have HGQM : Hid (gM ≠ q) := Lib.hid (by have := HQw1.out; omega)
  have HQBw2 : Hid ((uM.setCell ⟨q, 1, none⟩ (.slice (some ⟨gM, 0, none⟩) n cM)).heap[q]? = some (.cells #[.slice (some ⟨gF, 0, none⟩) n cF, .slice (some ⟨gM, 0, none⟩) n cM, .slice AE n cE0] 69 (0, 0))) := Lib.hid (blk_set HQuM.out 1 _)
  have HWM : Hid (OwnC (uM.setCell ⟨q, 1, none⟩ (.slice (some ⟨gM, 0, none⟩) n cM)) w1.heap.size 4 1 (some ⟨gM, 0, none⟩) n cM (flg s.mrk)) := Lib.hid (HOM.out.block (Below.heap_setCell uM ⟨q, 1, none⟩ _ gM HGQM.out))
  have HKw2 : Hid (Kept (fun k => k = q) w (uM.setCell ⟨q, 1, none⟩ (.slice (some ⟨gM, 0, none⟩) n cM))) := Lib.hid ((HKw1.out.step HBM.out).setCell (p := ⟨q, 1, none⟩) (.inl rfl) _)
  have HSZw2 : Hid (gM < (uM.setCell ⟨q, 1, none⟩ (.slice (some ⟨gM, 0, none⟩) n cM)).heap.size ∧ w1.heap.size ≤ (uM.setCell ⟨q, 1, none⟩ (.slice (some ⟨gM, 0, none⟩) n cM)).heap.size) := Lib.hid (by
    have := HBM.out.size
    simp
    exact ⟨hgl, this⟩)
  have HQw2 : Hid (q < (uM.setCell ⟨q, 1, none⟩ (.slice (some ⟨gM, 0, none⟩) n cM)).heap.size) := Lib.hid (Nat.lt_of_lt_of_le HQw1.out HSZw2.out.2)
  have HWFM : Hid (OwnC (uM.setCell ⟨q, 1, none⟩ (.slice (some ⟨gM, 0, none⟩) n cM)) w.heap.size 4 1 (some ⟨gF, 0, none⟩) n cF (flg s.ful)) := Lib.hid (HOFM.out.block (Below.heap_setCell uM ⟨q, 1, none⟩ _ gF HGQF.out))
  clear xM yM zM hgb hgl HO0M HRM HQuM HOM HBM HOFM HOF
  generalize uM.setCell ⟨q, 1, none⟩ (.slice (some ⟨gM, 0, none⟩) n cM) = w2 at *
  have HOM := HWM
  clear HWM
  have HOF := HWFM
  clear HWFM
  have HO0E : Hid (OwnC (w2.alloc (.cells #[] 34)) w2.heap.size 34 2 (some ⟨w2.heap.size, 0, none⟩) 0 0 (fun _ => .int .u64 0)) := Lib.hid (OwnC.fresh w2 _ _ rfl (Nat.le_refl _) _ _ _)
  have HRE : Hid (RdC (w2.alloc (.cells #[] 34)) (w2.alloc (.cells #[] 34)).heap.size AE (n * 2) (ecell s.eh s.ew)) := Lib.hid (by
    rw [HN.out]; exact (HFE.out.keep (HKw2.out.alloc _) fun _ h => h.2).rdc)
  have xE : (w2.alloc (.cells #[] 34)).cell? ⟨q, 2, none⟩ = some (.slice AE n cE0) := ((below_alloc w2 (.cells #[] 34)).cell (p := ⟨q, 2, none⟩) HQw2.out).trans (blk_cell HQBw2.out 2)
  go_upto_region 3 with (first
    | (at_builtin
       refine wpList_append_vals rfl (.tmp 21) (.tmp 25) 67 rfl w2.heap.size 34 iE (.agg #[.int .u64 0, .int .u32 0]) 2 Try.underlying67 HIE.out HZE.out HYE.out rfl (by decide) rfl HO0E.out rfl HRE.out (fun k _ => ecell_one _ _ _) (by unfold maxLen; omega) (by rw [HXE.out]; omega) (alloc_le w2 _) ?_
       intro NE cE uE hown hg _
       have HOE : Hid (OwnC uE w2.heap.size 34 2 NE n cE (ecell s.eh s.ew)) := Lib.hid (by
         rw [Nat.zero_add] at hown
         exact hown.same fun k _ => by unfold catV; rw [if_neg (by omega)]; rfl)
       have HBE : Hid (Below w2.heap.size w2 uE) := Lib.hid ((below_alloc w2 _).grown hg (alloc_le w2 _) fun k hk => HO0E.out.at_ k hk)
       rw [Nat.zero_add]
       have hqE : uE.heap[q]? = some (.cells #[.slice (some ⟨gF, 0, none⟩) n cF, .slice (some ⟨gM, 0, none⟩) n cM, .slice AE n cE0] 69 (0, 0)) := (HBE.out.block q HQw2.out).trans HQBw2.out
       have HQuE := Lib.hid hqE
       have yE : uE.cell? ⟨q, 2, none⟩ = some (.slice AE n cE0) := blk_cell hqE 2
       have zE : uE.frozen? ⟨q, 2, none⟩ = false := blk_free hqE 2
       have HOFE : Hid (OwnC uE w.heap.size 4 1 (some ⟨gF, 0, none⟩) n cF (flg s.ful)) := Lib.hid (HOF.out.below HBE.out)
       have HOME : Hid (OwnC uE w1.heap.size 4 1 (some ⟨gM, 0, none⟩) n cM (flg s.mrk)) := Lib.hid (HOM.out.below HBE.out)
       clear hown hg hqE))
  obtain ⟨gE, rfl, hgb, hgl, _, _⟩ := HOE.out.lies hpos
  have HGBE := Lib.hid hgb
  have HGLE := Lib.hid hgl
  have HGQE : Hid (gE ≠ q) := Lib.hid (by have := HQw2.out; omega)
  have HQBw3 : Hid ((uE.setCell ⟨q, 2, none⟩ (.slice (some ⟨gE, 0, none⟩) n cE)).heap[q]? = some (.cells #[.slice (some ⟨gF, 0, none⟩) n cF, .slice (some ⟨gM, 0, none⟩) n cM, .slice (some ⟨gE, 0, none⟩) n cE] 69 (0, 0))) := Lib.hid (blk_set HQuE.out 2 _)
  have HWE : Hid (OwnC (uE.setCell ⟨q, 2, none⟩ (.slice (some ⟨gE, 0, none⟩) n cE)) w2.heap.size 34 2 (some ⟨gE, 0, none⟩) n cE (ecell s.eh s.ew)) := Lib.hid (HOE.out.block (Below.heap_setCell uE ⟨q, 2, none⟩ _ gE HGQE.out))
  have HKw3 : Hid (Kept (fun k => k = q) w (uE.setCell ⟨q, 2, none⟩ (.slice (some ⟨gE, 0, none⟩) n cE))) := Lib.hid ((HKw2.out.step HBE.out).setCell (p := ⟨q, 2, none⟩) (.inl rfl) _)
  have HSZw3 : Hid (gE < (uE.setCell ⟨q, 2, none⟩ (.slice (some ⟨gE, 0, none⟩) n cE)).heap.size ∧ w2.heap.size ≤ (uE.setCell ⟨q, 2, none⟩ (.slice (some ⟨gE, 0, none⟩) n cE)).heap.size) := Lib.hid (by
    have := HBE.out.size
    simp
    exact ⟨hgl, this⟩)
  have HQw3 : Hid (q < (uE.setCell ⟨q, 2, none⟩ (.slice (some ⟨gE, 0, none⟩) n cE)).heap.size) := Lib.hid (Nat.lt_of_lt_of_le HQw2.out HSZw3.out.2)
  have HWFE : Hid (OwnC (uE.setCell ⟨q, 2, none⟩ (.slice (some ⟨gE, 0, none⟩) n cE)) w.heap.size 4 1 (some ⟨gF, 0, none⟩) n cF (flg s.ful)) := Lib.hid (HOFE.out.block (Below.heap_setCell uE ⟨q, 2, none⟩ _ gF HGQF.out))
  have HWME : Hid (OwnC (uE.setCell ⟨q, 2, none⟩ (.slice (some ⟨gE, 0, none⟩) n cE)) w1.heap.size 4 1 (some ⟨gM, 0, none⟩) n cM (flg s.mrk)) := Lib.hid (HOME.out.block (Below.heap_setCell uE ⟨q, 2, none⟩ _ gM HGQM.out))
  clear xE yE zE hgb hgl HO0E HRE HQuE HOE HBE HOFE HOF HOME HOM
  generalize uE.setCell ⟨q, 2, none⟩ (.slice (some ⟨gE, 0, none⟩) n cE) = w3 at *
  have HOE := HWE
  clear HWE
  have HOF := HWFE
  clear HWFE
  have HOM := HWME
  clear HWME
  go_end0
  have s1 := HSZw1.out
  have s2 := HSZw2.out
  have b0 := HGBF.out
  have b1 := HGBM.out
  have b2 := HGBE.out
  exact ⟨rfl, gF, cF, gM, cM, gE, cE, ⟨HQBw3.out, HOF.out, HOM.out.le (by omega), HOE.out.le (by omega), ⟨by omega, by omega, by omega⟩, ⟨by omega, by omega, by omega⟩, HQw.out, hpos⟩, HKw3.out⟩
set_option maxHeartbeats 2000000 in
theorem rdrop_yes (h : RT w q AF cF AM cM AE cE s G) (hs : s.Ok) (k : Nat) (hk : k < s.n) (hf : s.ful k = true) : Calls Try.prog 43 #[.pointer (some ⟨q, 0, none⟩), .int .i64 (k : Int)] w fun e w' => e = .returned (.int .i64 0) ∧ RTA w' q (s.gone k) (fun j => j = q ∨ w.heap.size ≤ j ∧ j < w'.heap.size) ∧ Kept (fun j => j = q) w w' := by
  have HOW := Lib.hid (rown_any h hs)
  obtain ⟨bF, oF, rfl, _, hFl, hFc⟩ := rdg_pos h.fF hs.pos
  have x0 : w.cell? ⟨q, 0, none⟩ = some (.slice (some ⟨bF, oF, none⟩) s.n cF) := blk_cell h.blk 0
  have x2 : w.cell? ⟨q, 2, none⟩ = some (.slice AE s.n cE) := blk_cell h.blk 2
  have xf : w.cell? ⟨bF, oF + k, none⟩ = some (.bool true) := by rw [hFc k hk, flg, hf]
  obtain ⟨hc1, hc9⟩ := h.capF
  obtain ⟨n, hn⟩ : ∃ n, n = s.n := ⟨_, rfl⟩
  have HN := Lib.hid hn
  have HPO := Lib.hid hs.pos
  have HTO := Lib.hid hs.top
  rw [← hn] at x0 x2 hc1 hk HTO HPO
  clear hn h hs hf hFc hFl
  have i0 : (0 : Int) ≤ (k : Int) := by omega
  have i1 : (k : Int) < (n : Int) := by omega
  have i2 : ((k : Int)).toNat = k := by omega
  have i3 : ¬ (k : Int) < 0 := by omega
  have i4 : ¬ (n : Int) ≤ (k : Int) := by omega
  go_enter Try.func43, Try.ntmps43
  go_upto_region 6 with (first
    | (go_at_call 65
       refine HOW.out.mono ?_
       rintro e u1 ⟨rfl, gF, cF', gM, cM', gE, cE', ho, hk1⟩
       have HO1 := Lib.hid ho
       have HK1 := Lib.hid hk1
       clear ho hk1))
  rw [← HN.out] at HO1
  have xF : u1.cell? ⟨q, 0, none⟩ = some (.slice (some ⟨gF, 0, none⟩) n cF') := blk_cell HO1.out.blk 0
  have xFc := (HO1.out.atF (p := k) hk).1
  have xFf := (HO1.out.atF (p := k) hk).2
  obtain ⟨hcF1, hcF9⟩ := HO1.out.caps.1
  have HO2 := Lib.hid (HO1.out.setF k (.bool false))
  have HK2 : Hid (Kept (fun j => j = q ∨ w.heap.size ≤ j) w (u1.setCell ⟨gF, k, none⟩ (.bool false))) := Lib.hid ((HK1.out.mono fun _ _ h => .inl h).setCell (p := ⟨gF, k, none⟩) (.inl (.inr HO1.out.low.1)) _)
  go_upto_region 7 with fail
  clear xF xFc xFf hcF1 hcF9 HO1 HK1
  generalize u1.setCell ⟨gF, k, none⟩ (.bool false) = u2 at *
  have xM : u2.cell? ⟨q, 1, none⟩ = some (.slice (some ⟨gM, 0, none⟩) n cM') := blk_cell HO2.out.blk 1
  have xMc := (HO2.out.atM (p := k) hk).1
  have xMf := (HO2.out.atM (p := k) hk).2
  obtain ⟨hcM1, hcM9⟩ := HO2.out.caps.2.1
  have HO3 := Lib.hid (HO2.out.setM k (.bool true))
  have HK3 := Lib.hid (HK2.out.setCell (p := ⟨gM, k, none⟩) (.inl (.inr HO2.out.low.2.1)) (.bool true))
  go_upto_region 8 with fail
  clear xM xMc xMf hcM1 hcM9 HO2 HK2
  generalize u2.setCell ⟨gM, k, none⟩ (.bool true) = u3 at *
  have xE : u3.cell? ⟨q, 2, none⟩ = some (.slice (some ⟨gE, 0, none⟩) n cE') := blk_cell HO3.out.blk 2
  have xE0 := (HO3.out.atE (p := k * 2) (by omega)).1
  have xE1 := (HO3.out.atE (p := k * 2 + 1) (by omega)).1
  have xEf := (HO3.out.atE (p := k * 2) (by omega)).2
  have xEg := (HO3.out.atE (p := k * 2 + 1) (by omega)).2
  obtain ⟨hcE1, hcE9⟩ := HO3.out.caps.2.2
  go_wp2_with fail
  go_ret
  have ho4 := HO3.out.setE (k * 2) (.int .u64 ((0 : Nat) : Int)) (.int .u32 ((0 : Nat) : Int))
  have hk4 := HK3.out.setCells (g := gE) (.inl (.inr HO3.out.low.2.2)) [.int .u64 ((0 : Nat) : Int), .int .u32 ((0 : Nat) : Int)] (k * 2)
  refine ⟨rfl, ⟨_, _, _, _, _, _, RTO.rt (s := s.gone k) (by rw [HN.out] at ho4; exact ho4) (fun j _ => flg_set _ _ _ _) (fun j _ => flg_set _ _ _ _) (fun j _ => ecell_set _ _ _ _ _ _)⟩, hk4.mono fun j hj h => ?_⟩
  rcases h with h | h
  · exact h
  · omega
set_option maxHeartbeats 2000000 in
theorem rdrop_no (h : RT w q AF cF AM cM AE cE s G) (hs : s.Ok) (p : Int) (hf : s.isF p = false) : Calls Try.prog 43 #[.pointer (some ⟨q, 0, none⟩), .int .i64 p] w (ret (.int .i64 (s.drE p)) w) := by
  obtain ⟨bF, oF, rfl, _, hFl, hFc⟩ := rdg_pos h.fF hs.pos
  have x0 : w.cell? ⟨q, 0, none⟩ = some (.slice (some ⟨bF, oF, none⟩) s.n cF) := blk_cell h.blk 0
  have x2 : w.cell? ⟨q, 2, none⟩ = some (.slice AE s.n cE) := blk_cell h.blk 2
  obtain ⟨hc1, hc9⟩ := h.capF
  obtain ⟨n, hn⟩ : ∃ n, n = s.n := ⟨_, rfl⟩
  have HN := Lib.hid hn
  rw [← hn] at x0 x2 hc1
  obtain ⟨EE, hEE⟩ : ∃ E, E = s.drE p := ⟨_, rfl⟩
  rw [← hEE]
  by_cases c0 : 0 ≤ p
  · by_cases c1 : p < (n : Int)
    · obtain ⟨k, rfl⟩ := Int.eq_ofNat_of_zero_le c0
      have hk : k < n := by omega
      have hfk : s.ful k = false := by
        unfold Tb.isF at hf
        rw [decide_eq_true c0, ← hn, decide_eq_true c1, Int.toNat_natCast] at hf
        simpa using hf
      have xf : w.cell? ⟨bF, oF + k, none⟩ = some (.bool false) := by rw [hFc k (by rw [← hn]; exact hk), flg, hfk]
      have HE : Hid (EE = 7) := Lib.hid (by
        rw [hEE]
        unfold Tb.drE
        rw [decide_eq_true c0, ← hn, decide_eq_true c1, Int.toNat_natCast, hfk]
        rfl)
      have i2 : ((k : Int)).toNat = k := by omega
      have i3 : ¬ (k : Int) < 0 := by omega
      have i4 : ¬ (n : Int) ≤ (k : Int) := by omega
      clear hn h hs hf hFc hFl hEE hfk
      go_enter Try.func43, Try.ntmps43
      go_wp2_with fail
      go_ret
      exact ⟨by rw [HE.out]; rfl, Below.refl _ _⟩
    · have HE : Hid (EE = 2) := Lib.hid (by
        rw [hEE]
        unfold Tb.drE
        rw [← hn, decide_eq_false c1, Bool.and_false]
        rfl)
      have c1' : (n : Int) ≤ p := by omega
      have i3 : ¬ p < 0 := by omega
      clear hn h hs hf hFc hFl hEE
      go_enter Try.func43, Try.ntmps43
      go_wp2_with fail
      go_ret
      exact ⟨by rw [HE.out]; rfl, Below.refl _ _⟩
  · have HE : Hid (EE = 2) := Lib.hid (by
      rw [hEE]
      unfold Tb.drE
      rw [decide_eq_false c0]
      rfl)
    have c0' : p < 0 := by omega
    clear hn h hs hf hFc hFl hEE
    go_enter Try.func43, Try.ntmps43
    go_wp2_with fail
    go_ret
    exact ⟨by rw [HE.out]; rfl, Below.refl _ _⟩
end
end Go.Proofs.Ythjghofjdcepmaa
