/- Stage 10: the document's slots in memory; Of, Where, set. -/
import Derived.Test.YthlnhkkjpjbmeaaVm
namespace Go.Proofs.Ythlnhkkjpjbmeaa
set_option maxRecDepth 100000
open Go.RowKit Go.Shelf
def ints (l : List Nat) (k : Nat) : Value := .int .i64 ((l[k]?.getD 0 : Nat) : Int)
theorem ints_at {l : List Nat} {k x : Nat} (h : l[k]? = some x) : ints l k = .int .i64 (x : Int) := by
  unfold ints
  rw [h]
  rfl
/-- A slice that holds a list, in blocks of G. -/
def LRow (w : World) (G : Nat → Prop) (v : Value) (l : List Nat) : Prop := ∃ A c, v = .slice A l.length c ∧ l.length ≤ c ∧ c ≤ 9223372036854775807 ∧ RdG w G A l.length (ints l)
theorem LRow.nil (w : World) (G : Nat → Prop) : LRow w G (.slice none 0 0) [] := ⟨none, 0, rfl, Nat.le_refl _, by omega, .inl rfl⟩
theorem LRow.keep {w w' : World} {G R : Nat → Prop} {v : Value} {l : List Nat} (h : LRow w G v l) (hk : Kept R w w') (hd : ∀ k, G k → ¬ R k) : LRow w' G v l := by
  obtain ⟨A, c, e, h1, h2, h3⟩ := h
  exact ⟨A, c, e, h1, h2, h3.keep hk hd⟩
theorem LRow.mono {w : World} {G G' : Nat → Prop} {v : Value} {l : List Nat} (h : LRow w G v l) (hG : ∀ k, G k → G' k) : LRow w G' v l := by
  obtain ⟨A, c, e, h1, h2, h3⟩ := h
  exact ⟨A, c, e, h1, h2, h3.mono hG⟩
theorem LRow.one {w : World} {G : Nat → Prop} {v : Value} {l : List Nat} (h : LRow w G v l) : v.oneCell' = true := by
  obtain ⟨A, c, rfl, _⟩ := h
  rfl
theorem OwnC.lrow {w : World} {base : Nat} {e : TypeId} {A : Option Addr} {l : List Nat} {c : Nat} (h : OwnC w base e 1 A l.length c (ints l)) {G : Nat → Prop} (hG : ∀ k, base ≤ k → k < w.heap.size → G k) : LRow w G (.slice A l.length c) l := by
  refine ⟨A, c, rfl, h.cap, ?_, h.rdg hG⟩
  have := h.cap_le
  unfold maxLen at this
  omega
/-- The document's slots at q stand for s. -/
structure RX (w : World) (q : Nat) (A : Option Addr) (c : Nat) (rows : Nat → Value) (s : Sl) (G : Nat → Prop) : Prop where
  blk : w.heap[q]? = some (.cells #[.slice A s.ls.length c, .int .i64 (s.cells : Int)] 61 (0, 0))
  cap : s.ls.length ≤ c ∧ c ≤ 9223372036854775807
  out : RdG w (fun k => G k ∧ k ≠ q) A s.ls.length rows
  each : ∀ i, i < s.ls.length → LRow w (fun k => G k ∧ k ≠ q) (rows i) (s.at_ i)
  mem : G q
  old : ∀ k, G k → k < w.heap.size
def RS (w : World) (q : Nat) (s : Sl) (G : Nat → Prop) : Prop := ∃ A c rows, RX w q A c rows s G
section
variable {w w' : World} {q : Nat} {A : Option Addr} {c : Nat} {rows : Nat → Value} {s : Sl} {G : Nat → Prop}
theorem RX.keep {R : Nat → Prop} (h : RX w q A c rows s G) (hk : Kept R w w') (hd : ∀ k, G k → ¬ R k) : RX w' q A c rows s G :=
  ⟨(hk.block q (h.old q h.mem) (hd q h.mem)).trans h.blk, h.cap, h.out.keep hk fun k q => hd k q.1, fun i hi => (h.each i hi).keep hk fun k q => hd k q.1, h.mem, fun k hG => Nat.lt_of_lt_of_le (h.old k hG) hk.size⟩
theorem RX.step (h : RX w q A c rows s G) (hb : Below w.heap.size w w') : RX w' q A c rows s G := h.keep (Kept.of_below hb fun _ => False) fun _ _ q => q
theorem RS.keep {R : Nat → Prop} (h : RS w q s G) (hk : Kept R w w') (hd : ∀ k, G k → ¬ R k) : RS w' q s G := by
  obtain ⟨A, c, rows, h⟩ := h
  exact ⟨A, c, rows, h.keep hk hd⟩
theorem RS.old (h : RS w q s G) : ∀ k, G k → k < w.heap.size := by
  obtain ⟨A, c, rows, h⟩ := h
  exact h.old
theorem RS.step (h : RS w q s G) (hb : Below w.heap.size w w') : RS w' q s G := h.keep (Kept.of_below hb fun _ => False) fun _ _ q => q
/-- A list's row. -/
theorem RX.row (h : RX w q A c rows s G) {i : Nat} (hi : i < s.ls.length) : ∃ b off, A = some ⟨b, off, none⟩ ∧ b < w.heap.size ∧ w.cell? ⟨b, off + i, none⟩ = some (rows i) := by
  rcases h.out with e | ⟨b, off, e, _, hl, hc⟩
  · omega
  · exact ⟨b, off, e, hl, hc i hi⟩
theorem rof_any (h : RX w q A c rows s G) (l : Int) : Calls Try.prog 30 #[.pointer (some ⟨q, 0, none⟩), .int .i64 l] w fun e w' => ∃ v, e = .returned v ∧ LRow w' (fun k => G k ∧ k ≠ q) v (s.of_ l) ∧ Below w.heap.size w w' := by
  have x0 : w.cell? ⟨q, 0, none⟩ = some (.slice A s.ls.length c) := blk_cell h.blk 0
  obtain ⟨hc1, hc9⟩ := h.cap
  by_cases hl : 0 ≤ l ∧ l < (s.ls.length : Int)
  · obtain ⟨i, rfl⟩ := Int.eq_ofNat_of_zero_le hl.1
    have hi : i < s.ls.length := by omega
    obtain ⟨b, off, rfl, _, xc⟩ := h.row hi
    have HE := Lib.hid (h.each i hi)
    have i0 : ¬ (i : Int) < 0 := by omega
    have i1 : (i : Int) < (s.ls.length : Int) := by omega
    have i2 : (0 : Int) ≤ (i : Int) := by omega
    rw [Sl.of_in]
    obtain ⟨v, hv⟩ : ∃ v, v = rows i := ⟨_, rfl⟩
    rw [← hv] at xc HE
    clear h hl hv
    go_enter Try.func30, Try.ntmps30
    go_wp2_with fail
    go_ret
    exact ⟨v, rfl, HE.out, Below.refl _ _⟩
  · rw [Sl.of_no hl]
    by_cases h0 : l < 0
    · go_enter Try.func30, Try.ntmps30
      go_wp2_with fail
      go_ret
      exact ⟨_, rfl, LRow.nil _ _, Below.refl _ _⟩
    · have h1 : (s.ls.length : Int) ≤ l := by omega
      have h1' : ¬ l < (s.ls.length : Int) := by omega
      go_enter Try.func30, Try.ntmps30
      go_wp2_with fail
      go_ret
      exact ⟨_, rfl, LRow.nil _ _, Below.refl _ _⟩
theorem Try.infoIS : (Try.prog.info? 43).map (fun i => (i.zero, i.size, i.bytes)) = some (some (.slice none 0 0), 1, 24) := by kernel_rfl
set_option maxHeartbeats 1000000 in
theorem rset_any (h : RX w q A c rows s G) (hn : s.ls.length ≤ 4096) (b0 : Nat) (hb0 : b0 ≤ w.heap.size) (hqb : q < b0) (i : Nat) (hi : i < s.ls.length) (v : Value) (l : List Nat) (hv : LRow w (fun k => b0 ≤ k ∧ k < w.heap.size) v l) :
    Calls Try.prog 28 #[.pointer (some ⟨q, 0, none⟩), .int .i64 (i : Int), v] w fun e w' => e = .returned (.tuple #[]) ∧ (∃ A2 c2, RX w' q A2 c2 (updV rows i v) (s.put i l) (fun k => G k ∨ (b0 ≤ k ∧ k < w'.heap.size))) ∧ Kept (fun k => k = q) w w' := by
  obtain ⟨i0, hi0, hz0, hz1, hz2⟩ := info_parts Try.infoIS
  have HI0 := Lib.hid hi0
  have HZ0 := Lib.hid hz0
  have HZ1 := Lib.hid hz1
  have HZ2 := Lib.hid hz2
  have HX := Lib.hid h
  obtain ⟨Av, cv, hve, _⟩ := id hv
  subst hve
  have HV := Lib.hid hv
  obtain ⟨nl, hnl⟩ : ∃ nl, nl = l.length := ⟨_, rfl⟩
  rw [← hnl] at HV ⊢
  clear hnl
  have hpos : 0 < s.ls.length := by omega
  have x0 : w.cell? ⟨q, 0, none⟩ = some (.slice A s.ls.length c) := blk_cell h.blk 0
  have HQW : Hid (q < w.heap.size) := Lib.hid (lt_heap h.blk)
  have j0 : (0 : Int) ≤ (i : Int) := by omega
  obtain ⟨n, hnn⟩ : ∃ n, n = s.ls.length := ⟨_, rfl⟩
  have HNN := Lib.hid hnn
  have HO4 : Hid (OwnC (w.alloc (.cells #[] 43)) w.heap.size 43 1 (some ⟨w.heap.size, 0, none⟩) 0 0 (fun _ => .int .u64 0)) := Lib.hid (OwnC.fresh w _ _ rfl (Nat.le_refl _) _ _ _)
  have HR4 : Hid (RdC (w.alloc (.cells #[] 43)) (w.alloc (.cells #[] 43)).heap.size A (n * 1) rows) := Lib.hid (by
    rw [Nat.mul_one, hnn]
    exact (h.step (below_alloc w _)).out.rdc)
  have HON : Hid (∀ k, k < n * 1 → (rows k).oneCell' = true) := Lib.hid fun k hk => (h.each k (by omega)).one
  have j1 : (i : Int) < (n : Int) := by omega
  have hi' : i < n := by omega
  rw [← hnn] at x0 hpos hn
  have x0' : (w.alloc (.cells #[] 43)).cell? ⟨q, 0, none⟩ = some (.slice A n c) := ((below_alloc w (.cells #[] 43)).cell (p := ⟨q, 0, none⟩) HQW.out).trans x0
  clear hi0 hz0 hz1 hz2 h hv hnn hi
  go_enter Try.func28, Try.ntmps28
  go_upto_region 1 with (first
    | (at_builtin
       refine wpList_append_vals rfl (.tmp 7) (.tmp 11) 59 rfl w.heap.size 43 i0 (.slice none 0 0) 1 Try.underlying59 HI0.out HZ0.out HZ1.out rfl (by decide) rfl HO4.out rfl HR4.out HON.out (by unfold maxLen; omega) (by rw [HZ2.out]; omega) (alloc_le w _) ?_
       intro A2 c2 u5 hown5 hg5 _
       have HO5 : Hid (OwnC u5 w.heap.size 43 1 A2 n c2 rows) := Lib.hid (by
         rw [Nat.zero_add] at hown5
         exact hown5.same fun k _ => by unfold catV; rw [if_neg (by omega)]; rfl)
       have HB5 : Hid (Below w.heap.size w u5) := Lib.hid ((below_alloc w _).grown hg5 (alloc_le w _) fun k hk => HO4.out.at_ k hk)
       rw [Nat.zero_add]
       have hq5 : u5.heap[q]? = some (.cells #[.slice A n c, .int .i64 (s.cells : Int)] 61 (0, 0)) := by rw [HNN.out]; exact (HB5.out.block q HQW.out).trans HX.out.blk
       have x5 : u5.cell? ⟨q, 0, none⟩ = some (.slice A n c) := blk_cell hq5 0
       have y5 : u5.frozen? ⟨q, 0, none⟩ = false := blk_free hq5 0
       clear hown5 hg5))
  obtain ⟨g2, rfl, hgb, hgl, hgc, hgf⟩ := HO5.out.lies hpos
  have HGQ : Hid (g2 ≠ q) := Lib.hid (by have := HQW.out; omega)
  have HGB := Lib.hid hgb
  have HQ6 : Hid ((u5.setCell ⟨q, 0, none⟩ (.slice (some ⟨g2, 0, none⟩) n c2)).heap[q]? = some (.cells #[.slice (some ⟨g2, 0, none⟩) n c2, .int .i64 (s.cells : Int)] 61 (0, 0))) := Lib.hid (blk_set hq5 0 _)
  have HO6 : Hid (OwnC (u5.setCell ⟨q, 0, none⟩ (.slice (some ⟨g2, 0, none⟩) n c2)) w.heap.size 43 1 (some ⟨g2, 0, none⟩) n c2 rows) := Lib.hid (HO5.out.block (Below.heap_setCell u5 ⟨q, 0, none⟩ _ g2 HGQ.out))
  have HK6 : Hid (Kept (fun k => k = q) w (u5.setCell ⟨q, 0, none⟩ (.slice (some ⟨g2, 0, none⟩) n c2))) := Lib.hid ((Kept.of_below HB5.out (fun k => k = q)).setCell (p := ⟨q, 0, none⟩) (.inl rfl) _)
  clear hgb hgl hgc hgf x5 y5 hq5 HO5 HB5 x0
  generalize u5.setCell ⟨q, 0, none⟩ (.slice (some ⟨g2, 0, none⟩) n c2) = u6 at *
  have x6 : u6.cell? ⟨q, 0, none⟩ = some (.slice (some ⟨g2, 0, none⟩) n c2) := blk_cell HQ6.out 0
  obtain ⟨g', e, _, _, hgc, hgf⟩ := HO6.out.lies hpos
  injection e with e
  injection e with e
  subst e
  have x7 : u6.cell? ⟨g2, i, none⟩ = some (rows i) := hgc i (by omega)
  have x8 : u6.frozen? ⟨g2, i, none⟩ = false := hgf i
  have hc2 : n ≤ c2 ∧ c2 ≤ 9223372036854775807 := by
    have h1 := HO6.out.cap
    have h2 := HO6.out.cap_le
    unfold maxLen at h2
    omega
  obtain ⟨rv, hrv⟩ : ∃ rv, rv = rows i := ⟨_, rfl⟩
  rw [← hrv] at x7
  clear hgc hgf hrv
  go_wp2_with fail
  go_end0
  have hqk := (Below.heap_setCell u6 ⟨g2, i, none⟩ (.slice Av nl cv) q HGQ.out.symm).trans HQ6.out
  have ho7 := HO6.out.set_ i (.slice Av nl cv)
  have hsz : (u6.setCell ⟨g2, i, none⟩ (.slice Av nl cv)).heap.size = u6.heap.size := by simp
  have hk7 : Kept (fun k => k = q) w (u6.setCell ⟨g2, i, none⟩ (.slice Av nl cv)) := HK6.out.setCell (p := ⟨g2, i, none⟩) (.inr HGB.out) _
  have hws := hk7.size
  refine ⟨rfl, ⟨some ⟨g2, 0, none⟩, c2, ?_, ?_, ?_, ?_, .inl HX.out.mem, fun k hk => ?_⟩, hk7⟩
  · have el : (s.put i l).ls.length = n := by rw [Sl.put_len, ← HNN.out]
    rw [el]
    exact hqk
  · show (s.ls.set i l).length ≤ _ ∧ _
    rw [List.length_set, ← HNN.out]
    exact hc2
  · show RdG _ _ _ (s.ls.set i l).length _
    rw [List.length_set, ← HNN.out]
    exact ho7.rdg fun k h1 h2 => ⟨.inr ⟨Nat.le_trans hb0 h1, h2⟩, by have := HQW.out; omega⟩
  · intro j hj
    have hj' : j < s.ls.length := by rwa [Sl.put_len] at hj
    rw [Sl.at_put (by rw [← HNN.out]; exact hi')]
    unfold updV
    by_cases e : j = i
    · rw [if_pos e, if_pos e]
      refine (HV.out.keep hk7 fun k hk => by have := hk.1; omega).mono fun k hk => ⟨.inr ⟨hk.1, ?_⟩, by have := hk.1; omega⟩
      omega
    · rw [if_neg e, if_neg e]
      exact ((HX.out.each j hj').keep hk7 fun k hk => hk.2).mono fun k hk => ⟨.inl hk.1, hk.2⟩
  · rcases hk with hk | hk
    · exact Nat.lt_of_lt_of_le (HX.out.old k hk) hws
    · exact hk.2
end
end Go.Proofs.Ythlnhkkjpjbmeaa
