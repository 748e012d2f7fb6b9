import Derived.Test.YthjgecdnlpdcdaaM45
/- Layer 8, the program: what a datagram says. -/
namespace Go.Proofs.Ythjgecdnlpdcdaa
set_option maxRecDepth 100000
open Go.RowKit
/-- Bytes of the call's own, from block B on. -/
def RdF (w : World) (B : Nat) (A : Option Addr) (n : Nat) (f : Nat → Int) : Prop := n = 0 ∨ ∃ b off, A = some ⟨b, off, none⟩ ∧ B ≤ b ∧ b < w.heap.size ∧ ∀ k, k < n → w.cell? ⟨b, off + k, none⟩ = some (.int .u8 (f k))
theorem RdF.rd {w : World} {B n : Nat} {A : Option Addr} {f : Nat → Int} (h : RdF w B A n f) : Rd w w.heap.size A n f := by
  rcases h with h | ⟨b, off, e, _, h2, h3⟩
  · exact .inl h
  · exact .inr ⟨b, off, e, h2, h3⟩
theorem RdF.step {w w' : World} {B n : Nat} {A : Option Addr} {f : Nat → Int} (h : RdF w B A n f) (hb : Below w.heap.size w w') : RdF w' B A n f := by
  rcases h with h | ⟨b, off, e, h1, h2, h3⟩
  · exact .inl h
  · exact .inr ⟨b, off, e, h1, Nat.lt_of_lt_of_le h2 hb.size, fun k hk => (hb.cell (p := ⟨b, off + k, none⟩) h2).trans (h3 k hk)⟩
theorem RdF.le {w : World} {B B' n : Nat} {A : Option Addr} {f : Nat → Int} (h : RdF w B A n f) (hB : B' ≤ B) : RdF w B' A n f := by
  rcases h with h | ⟨b, off, e, h1, h2, h3⟩
  · exact .inl h
  · exact .inr ⟨b, off, e, Nat.le_trans hB h1, h2, h3⟩
theorem RdF.same {w : World} {B n : Nat} {A : Option Addr} {f g : Nat → Int} (h : RdF w B A n f) (hg : ∀ k, k < n → g k = f k) : RdF w B A n g := by
  rcases h with h | ⟨b, off, e, h1, h2, h3⟩
  · exact .inl h
  · exact .inr ⟨b, off, e, h1, h2, fun k hk => by rw [hg k hk]; exact h3 k hk⟩
theorem cell_block {w w' : World} {p : Addr} (h : w'.heap[p.block]? = w.heap[p.block]?) : w'.cell? p = w.cell? p := by
  simp only [World.cell?, h]
theorem RdF.other {w w' : World} {B n : Nat} {A : Option Addr} {f : Nat → Int} (h : RdF w B A n f) {q : Nat} (hq : q < B) (hs : w.heap.size ≤ w'.heap.size) (hw : ∀ k, k ≠ q → w'.heap[k]? = w.heap[k]?) : RdF w' B A n f := by
  rcases h with h | ⟨b, off, e, h1, h2, h3⟩
  · exact .inl h
  · exact .inr ⟨b, off, e, h1, Nat.lt_of_lt_of_le h2 hs, fun k hk => (cell_block (p := ⟨b, off + k, none⟩) (hw b (by omega))).trans (h3 k hk)⟩
theorem Own.rdf {w : World} {base : Nat} {e : TypeId} {A : Option Addr} {n c : Nat} {f : Nat → Int} (h : Own w base e A n c f) : RdF w base A n f := by
  rcases Nat.eq_zero_or_pos n with h0 | h0
  · exact .inl h0
  · obtain ⟨g, rfl, hb, hlt, hc, _⟩ := h.lies h0
    exact .inr ⟨g, 0, rfl, hb, hlt, fun k hk => by rw [Nat.zero_add]; exact hc k hk⟩
theorem results_tmp4 {fn : Func} {t u v x : Tmp} (h : fn.results = #[.tmp t, .tmp u, .tmp v, .tmp x]) (tmps : Array Value) (P : Program) (w : World) :
    (results fn tmps).run P w = .ok (.tuple #[tmps.getD t undef, tmps.getD u undef, tmps.getD v undef, tmps.getD x undef]) w := by
  simp [results, h]
/-- What a datagram's reader tells. -/
def GuO (v : Bool) (s d r : Nat → Int) (n : Nat) (w : World) (e : Ending) (w' : World) : Prop :=
  (guE v s d r n ≠ 0 ∧ e = .returned (.tuple #[.int .u16 0, .int .u8 0, .slice none 0 0, .int .i64 (guE v s d r n)]) ∧ Below w.heap.size w w') ∨
  (guE v s d r n = 0 ∧ ∃ J jc, e = .returned (.tuple #[.int .u16 (w2 r 0), .int .u8 (r 9), .slice J (n - 12) jc, .int .i64 0]) ∧ n - 12 ≤ jc ∧ jc ≤ 9223372036854775807 ∧ RdF w' w.heap.size J (n - 12) (fun k => r (12 + k)) ∧ Below w.heap.size w w')
set_option maxHeartbeats 2000000 in
theorem ugue_any (v : Bool) (S D : Nat → Int) (hS : Byt S) (hD : Byt D) (P : Int) (I : Option Addr) (n ic : Nat) (r : Nat → Int) (hrb : Byt r) (hn : n ≤ 140737488355328) (hcap : n ≤ ic) (hc9 : ic ≤ 9223372036854775807) (w : World) (hr : Rd w w.heap.size I n r) :
    Calls Try.prog 12 #[.agg (outs S D P (.slice I n ic)), .bool v] w (GuO v S D r n w) := by
  have HR := Lib.hid hr
  have HRU := Lib.hid fun W hr => readU_any v S D hS hD I n ic r hrb hn hcap hc9 W hr
  have HU : Hid (udpE v (psq v S D 17 n) r n = 0 → 8 ≤ n) := Lib.hid fun h => (udp_ok h).1
  unfold GuO
  obtain ⟨E, hE0⟩ : ∃ E, E = guE v S D r n := ⟨_, rfl⟩
  have HEE : Hid (E = if udpE v (psq v S D 17 n) r n ≠ 0 then udpE v (psq v S D 17 n) r n else if w2 r 2 ≠ 6080 then 10 else if n < 12 then 4 else if r 8 ≠ 0 ∨ r 10 ≠ 0 ∨ r 11 ≠ 0 then 5 else 0) := Lib.hid hE0
  rw [← hE0]
  clear hE0 hr hS hD
  obtain ⟨E6, hE6⟩ : ∃ E, E = udpE v (psq v S D 17 n) r n := ⟨_, rfl⟩
  rw [← hE6] at HRU HEE HU
  clear hE6
  unfold ReadU ReadUO at HRU
  obtain ⟨ns, hns⟩ : ∃ b, b = decide (w2 r 6 = 0) := ⟨_, rfl⟩
  rw [← hns] at HRU
  clear hns
  have HM : Hid (Mem w (w.alloc (.cells (outs S D P (.slice I n ic)) 44)) [(w.heap.size, .cells (outs S D P (.slice I n ic)) 44 (0, 0))]) := Lib.hid ((Mem.nil w).alloc (.cells (outs S D P (.slice I n ic)) 44))
  obtain ⟨p0, hp0⟩ : ∃ p, p = w2 r 0 := ⟨_, rfl⟩
  obtain ⟨p2, hp2⟩ : ∃ p, p = w2 r 2 := ⟨_, rfl⟩
  obtain ⟨y9, hy9⟩ : ∃ y, y = r 9 := ⟨_, rfl⟩
  rw [← hp0] at HRU ⊢
  rw [← hy9]
  have HY9 := Lib.hid hy9
  rw [← hp2] at HRU HEE
  clear hp0 hp2 hy9
  go_enter Try.func12, Try.ntmps12
  go_upto_region 1 with fail
  change Code.wp _ _ _ _ (w.alloc (.cells (outs S D P (.slice I n ic)) 44))
  generalize w.alloc (.cells (outs S D P (.slice I n ic)) 44) = u1 at *
  have x33 : u1.cell? ⟨w.heap.size, 33, none⟩ = some (.slice I n ic) := blk_cell (HM.out.get 0 rfl) 33
  go_wp2_with (first
    | (refine wpList_load_mid rfl 22 (.tmp 13) rfl w.heap.size 0 rfl (arr16 S).toList _ (blk_range (HM.out.get 0 rfl) (fun k hk => outs_srcs k hk)) Try.underlying22 rfl (by kernel_rfl) ?_)
    | (refine wpList_load_mid rfl 22 (.tmp 15) rfl w.heap.size 16 rfl (arr16 D).toList _ (blk_range (HM.out.get 0 rfl) (fun k hk => outs_dsts k hk)) Try.underlying22 rfl (by kernel_rfl) ?_))
  go_at_call 18
  refine (HRU.out u1 (HM.out.rd HR.out)).mono ?_
  rintro e u2 (⟨hE, rfl, hb⟩ | ⟨hE, J, jc, rfl, ho, hb⟩)
  · have hne' : (E6 != 0) = true := by simpa using hE
    have HXE : Hid (E = E6) := Lib.hid (HEE.out.trans (by rw [if_pos hE]))
    have HM2 := Lib.hid (HM.out.step hb)
    clear hb HM HRU x33
    have HN : Hid ((u2.alloc (.cells udpz 53)).heap[u2.heap.size]? = some (.cells udpz 53 (0, 0))) := heap_alloc_new u2 _
    go_upto_if 23 with (first
      | (refine wpList_store_row rfl 53 (.tmp 8) (.tmp 20) rfl u2.heap.size udpz rfl rfl 53 udpz HN.out (by kernel_rfl) rfl (udp_one ..) ?_))
    change Code.wp _ _ _ _ ((u2.alloc (.cells udpz 53)).setRow u2.heap.size udpz)
    obtain ⟨q8, hq⟩ : ∃ q8, q8 = u2.heap.size := ⟨_, rfl⟩
    have HM3 : Hid (Mem w ((u2.alloc (.cells udpz 53)).setRow q8 udpz) [(w.heap.size, .cells (outs S D P (.slice I n ic)) 44 (0, 0)), (q8, .cells udpz 53 (0, 0))]) := Lib.hid (HM2.out.newrow udpz udpz 53 q8 hq)
    rw [← hq]
    clear hq HN HM2
    generalize (u2.alloc (.cells udpz 53)).setRow q8 udpz = u3 at *
    go_wp2_with fail
    (try simp only [Exit.inBlock, Exit.then]); refine bodyPost_ret (results_tmp4 rfl _ _ _) rfl ?_
    exact .inl ⟨by rw [HXE.out]; exact hE, by rw [HXE.out] <;> rfl, HM3.out.below⟩
  · have HM2 := Lib.hid (HM.out.step hb)
    have HO2 := Lib.hid (ho.le HM.out.below.size)
    have h8 := HU.out hE
    subst hE
    clear hb HM HRU x33 ho HU
    have HN : Hid ((u2.alloc (.cells udpz 53)).heap[u2.heap.size]? = some (.cells udpz 53 (0, 0))) := heap_alloc_new u2 _
    go_upto_if 23 with (first
      | (refine wpList_store_row rfl 53 (.tmp 8) (.tmp 20) rfl u2.heap.size (udpc p0 p2 ns) rfl rfl 53 udpz HN.out (by kernel_rfl) rfl (udp_one ..) ?_))
    change Code.wp _ _ _ _ ((u2.alloc (.cells udpz 53)).setRow u2.heap.size (udpc p0 p2 ns))
    obtain ⟨q8, hq⟩ : ∃ q8, q8 = u2.heap.size := ⟨_, rfl⟩
    have HM3 : Hid (Mem w ((u2.alloc (.cells udpz 53)).setRow q8 (udpc p0 p2 ns)) [(w.heap.size, .cells (outs S D P (.slice I n ic)) 44 (0, 0)), (q8, .cells (udpc p0 p2 ns) 53 (0, 0))]) := Lib.hid (HM2.out.newrow udpz (udpc p0 p2 ns) 53 q8 hq)
    have HO3 : Hid (Own ((u2.alloc (.cells udpz 53)).setRow q8 (udpc p0 p2 ns)) w.heap.size 5 J (n - 8) jc (fun k => r (8 + k))) := Lib.hid (HO2.out.below (by rw [hq]; exact below_setRow (below_alloc u2 _) (Nat.le_refl _) _))
    rw [← hq]
    clear hq HN HM2 HO2
    generalize (u2.alloc (.cells udpz 53)).setRow q8 (udpc p0 p2 ns) = u3 at *
    have xd : u3.cell? ⟨q8, 1, none⟩ = some (.int .u16 p2) := blk_cell (HM3.out.get 1 rfl) 1
    have xs : u3.cell? ⟨q8, 0, none⟩ = some (.int .u16 p0) := blk_cell (HM3.out.get 1 rfl) 0
    have HE1 : Hid (E = if p2 ≠ 6080 then 10 else if n < 12 then 4 else if r 8 ≠ 0 ∨ r 10 ≠ 0 ∨ r 11 ≠ 0 then 5 else 0) := Lib.hid (HEE.out.trans (by rw [if_neg (fun q => q rfl)]))
    obtain ⟨M, hM⟩ : ∃ M, M = n - 8 := ⟨_, rfl⟩
    rw [← hM] at HO3 ⊢
    have HMn : Hid (n = M + 8) := Lib.hid (by omega)
    clear HEE hM h8
    by_cases c1 : p2 = 6080
    · have k1 : (p2 != 6080) = false := by simp [c1]
      by_cases c2 : M < 4
      · have c2' : (M : Int) < 4 := by omega
        have HXE : Hid (E = 4) := Lib.hid (HE1.out.trans (by rw [if_neg (fun q => q c1), if_pos (by have := HMn.out; omega)]))
        clear HE1 c1 c2
        go_wp2_with fail
        (try simp only [Exit.inBlock, Exit.then]); refine bodyPost_ret (results_tmp4 rfl _ _ _) rfl ?_
        exact .inl ⟨by rw [HXE.out]; decide, by rw [HXE.out] <;> rfl, HM3.out.below⟩
      · have c2' : (4 : Int) ≤ (M : Int) := by omega
        have HE2 : Hid (E = if r 8 ≠ 0 ∨ r 10 ≠ 0 ∨ r 11 ≠ 0 then 5 else 0) := Lib.hid (HE1.out.trans (by rw [if_neg (fun q => q c1), if_neg (by have := HMn.out; omega)]))
        obtain ⟨g, rfl, hgB, hgl, hcl, _⟩ := HO3.out.lies (by omega)
        have x0 : u3.cell? ⟨g, 0, none⟩ = some (.int .u8 (r 8)) := hcl 0 (by omega)
        have x1 : u3.cell? ⟨g, 1, none⟩ = some (.int .u8 y9) := by rw [HY9.out]; exact hcl 1 (by omega)
        have x2 : u3.cell? ⟨g, 2, none⟩ = some (.int .u8 (r 10)) := hcl 2 (by omega)
        have x3 : u3.cell? ⟨g, 3, none⟩ = some (.int .u8 (r 11)) := hcl 3 (by omega)
        obtain ⟨D2, hsD0, hrD0⟩ := slice_from g 0 M jc 4 (by omega) HO3.out.cap HO3.out.cap_le
        have hsD : ∀ W, (Instr.sliceAt 26 (.slice (some ⟨g, 0, none⟩) M jc) (some (.int .i64 4)) none none).run Try.prog W = .ok (.slice D2 (M - 4) (jc - 4)) W := fun W => hsD0 W
        have HD2 : Hid (RdF u3 w.heap.size D2 (M - 4) (fun k => r (12 + k))) := Lib.hid (by
          by_cases c4 : M - 4 = 0
          · exact .inl c4
          · refine .inr ⟨g, 0 + 4, hrD0 (by omega), hgB, hgl, fun k hk => ?_⟩
            have q := hcl (4 + k) (by omega)
            rw [show 8 + (4 + k) = 12 + k by omega] at q
            rw [show 0 + 4 + k = 4 + k by omega]
            exact q)
        have HJC : Hid (M - 4 ≤ jc - 4 ∧ jc - 4 ≤ 9223372036854775807) := Lib.hid ⟨by have := HO3.out.cap; omega, by have := HO3.out.cap_le; omega⟩
        have i0 : 0 < M := by omega
        have i1 : (1 : Int) < (M : Int) := by omega
        have i2 : (2 : Int) < (M : Int) := by omega
        have i3 : (3 : Int) < (M : Int) := by omega
        have HMn4 : Hid (M - 4 = n - 12) := Lib.hid (by have := HMn.out; omega)
        clear hgB hgl hcl HY9 hsD0 hrD0 HE1 c1 c2 HMn hrb
        generalize r 8 = y8 at *
        generalize r 10 = y10 at *
        generalize r 11 = y11 at *
        by_cases d8 : y8 = 0
        · have m8 : (y8 != 0) = false := by simp [d8]
          by_cases d10 : y10 = 0
          · have m10 : (y10 != 0) = false := by simp [d10]
            by_cases d11 : y11 = 0
            · have m11 : (y11 != 0) = false := by simp [d11]
              have HXE : Hid (E = 0) := Lib.hid (HE2.out.trans (by rw [if_neg (by rw [d8, d10, d11]; simp)]))
              clear HE2 d8 d10 d11
              go_upto_region 10 with fail
              have y0 : ∀ W : Stay u3, W.w.cell? ⟨q8, 0, none⟩ = some (.int .u16 p0) := fun W => Stay.cell xs W
              have y1 : ∀ W : Stay u3, W.w.cell? ⟨g, 1, none⟩ = some (.int .u8 y9) := fun W => Stay.cell x1 W
              clear xs x1 x0 x2 x3 xd
              refine wp_region_stay (by kernel_rfl) (by kernel_rfl) ?_
              repeat (go_big_quiet_step (fail))
              refine wpQuiet_nil ?_
              intro w' hw'
              obtain ⟨W, rfl⟩ := hw'
              go_wp2_with fail
              (try simp only [Exit.inBlock, Exit.then]); refine bodyPost_ret (results_tmp4 rfl _ _ _) rfl ?_
              refine .inr ⟨HXE.out, D2, jc - 4, ?_, ?_, HJC.out.2, ?_, HM3.out.below.trans (W.below.mono HM3.out.below.size)⟩
              · rw [← HMn4.out] <;> rfl
              · rw [← HMn4.out]; exact HJC.out.1
              · rw [← HMn4.out]; exact HD2.out.step W.below
            · have m11 : (y11 != 0) = true := by simp [d11]
              have HXE : Hid (E = 5) := Lib.hid (HE2.out.trans (by rw [if_pos (.inr (.inr d11))]))
              clear HE2 d8 d10 d11 hsD
              go_wp2_with fail
              (try simp only [Exit.inBlock, Exit.then]); refine bodyPost_ret (results_tmp4 rfl _ _ _) rfl ?_
              exact .inl ⟨by rw [HXE.out]; decide, by rw [HXE.out] <;> rfl, HM3.out.below⟩
          · have m10 : (y10 != 0) = true := by simp [d10]
            have HXE : Hid (E = 5) := Lib.hid (HE2.out.trans (by rw [if_pos (.inr (.inl d10))]))
            clear HE2 d8 d10 hsD
            go_wp2_with fail
            (try simp only [Exit.inBlock, Exit.then]); refine bodyPost_ret (results_tmp4 rfl _ _ _) rfl ?_
            exact .inl ⟨by rw [HXE.out]; decide, by rw [HXE.out] <;> rfl, HM3.out.below⟩
        · have m8 : (y8 != 0) = true := by simp [d8]
          have HXE : Hid (E = 5) := Lib.hid (HE2.out.trans (by rw [if_pos (.inl d8)]))
          clear HE2 d8 hsD
          go_wp2_with fail
          (try simp only [Exit.inBlock, Exit.then]); refine bodyPost_ret (results_tmp4 rfl _ _ _) rfl ?_
          exact .inl ⟨by rw [HXE.out]; decide, by rw [HXE.out] <;> rfl, HM3.out.below⟩
    · have k1 : (p2 != 6080) = true := by simp [c1]
      have HXE : Hid (E = 10) := Lib.hid (HE1.out.trans (by rw [if_pos c1]))
      clear HE1 c1
      go_wp2_with fail
      (try simp only [Exit.inBlock, Exit.then]); refine bodyPost_ret (results_tmp4 rfl _ _ _) rfl ?_
      exact .inl ⟨by rw [HXE.out]; decide, by rw [HXE.out] <;> rfl, HM3.out.below⟩
end Go.Proofs.Ythjgecdnlpdcdaa
