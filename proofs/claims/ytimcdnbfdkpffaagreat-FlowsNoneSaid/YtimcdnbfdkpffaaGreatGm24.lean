import Derived.Test.YtimcdnbfdkpffaaGreatGm23
import Derived.Test.YtimcdnbfdkpffaaGreatGm2
import Derived.BigQuiet
import Derived.Test.YtimcdnbfdkpffaaGreatGm1
import Derived.Test.YtimcdnbfdkpffaaGreatGm3
/- Stage 13: the landed table: Copy, New. -/
namespace Go.Proofs.YtimcdnbfdkpffaaGreat
set_option maxRecDepth 100000
open Go.RowKit Go.Shelf
theorem Tryz.infoTP : (Tryz.prog.info? 212).map (fun i => (i.zero, i.size, i.bytes)) = some (some (.agg #[.int .u8 0, .int .u64 0, .int .u32 0]), 3, 24) := by kernel_rfl
theorem ownC_lt {w : World} {base size : Nat} {e : TypeId} {g n c : Nat} {f : Nat → Value} (h : OwnC w base e size (some ⟨g, 0, none⟩) n c f) (hn : 0 < n) : g < w.heap.size := by
  obtain ⟨g', e, _, hl, _⟩ := h.lies hn
  injection e with e
  injection e with e
  omega
set_option maxHeartbeats 1000000 in
theorem tclone_any {w : World} {g n c : Nat} {f : Nat → Value} (h : OwnC w 0 212 3 (some ⟨g, 0, none⟩) n c f) (hpos : 0 < n) (hn : n ≤ 262144) (hone : ∀ k, k < n * 3 → (f k).oneCell' = true) : Calls Tryz.prog 131 #[.slice (some ⟨g, 0, none⟩) n c] w fun e w' => ∃ g2 c2, e = .returned (.slice (some ⟨g2, 0, none⟩) n c2) ∧ w.heap.size ≤ g2 ∧ OwnC w' w.heap.size 212 3 (some ⟨g2, 0, none⟩) n c2 f ∧ Below w.heap.size w w' := by
  obtain ⟨i0, hi0, hz0, hz1, hz2⟩ := info_parts Tryz.infoTP
  have HI0 := Lib.hid hi0
  have HZ0 := Lib.hid hz0
  have HZ1 := Lib.hid hz1
  have HZ2 := Lib.hid hz2
  have HO4 : Hid (OwnC (w.alloc (.cells #[] 212)) w.heap.size 212 3 (some ⟨w.heap.size, 0, none⟩) 0 0 (fun _ => .int .u64 0)) := Lib.hid (OwnC.fresh w _ _ rfl (Nat.le_refl _) _ _ _)
  have HR4 := Lib.hid (h.below (below_alloc w (.cells #[] 212))).rd
  have HONE := Lib.hid hone
  clear hi0 hz0 hz1 hz2 h hone
  have hnil : ∀ W, (binOp .eql 182 (.slice (some ⟨g, 0, none⟩) n c) (.slice none 0 0)).run Tryz.prog W = .ok (.bool false) W := fun W => by kernel_rfl
  go_enter Tryz.func131, Tryz.ntmps131
  go_wp2_with (first
    | (at_builtin
       refine wpList_append_vals rfl (.tmp 5) (.tmp 6) 182 rfl w.heap.size 212 i0 (.agg #[.int .u8 0, .int .u64 0, .int .u32 0]) 3 Tryz.underlying182 HI0.out HZ0.out HZ1.out rfl (by decide) rfl HO4.out rfl HR4.out (fun k hk => HONE.out k hk) (by unfold maxLen; omega) (by rw [HZ2.out]; omega) (alloc_le w _) ?_
       intro A2 c2 u5 hown5 hg5 _
       have HO5 : Hid (OwnC u5 w.heap.size 212 3 A2 n c2 f) := Lib.hid (by
         rw [Nat.zero_add] at hown5
         exact hown5.same fun k _ => by unfold catV; rw [if_neg (by omega)]; rfl)
       have HB5 : Hid (Below w.heap.size w u5) := Lib.hid ((below_alloc w _).grown hg5 (alloc_le w _) fun k hk => HO4.out.at_ k hk)
       rw [Nat.zero_add]
       clear hown5 hg5))
  go_ret
  obtain ⟨g2, hg2, hgb, _⟩ := HO5.out.lies hpos
  subst hg2
  exact ⟨g2, c2, rfl, hgb, HO5.out, HB5.out⟩
theorem tcopy_un {w : World} {pa : Option Addr} (hc : Calls Tryz.prog 130 #[.pointer pa] w (ret (.bool false) w)) : Calls Tryz.prog 85 #[.pointer pa] w (ret (.pointer none) w) := by
  have HC := Lib.hid hc
  clear hc
  go_enter Tryz.func85, Tryz.ntmps85
  go_wp2_with (first
    | (go_at_call 130
       refine HC.out.mono ?_
       rintro e u ⟨rfl, hb⟩
       have HB := Lib.hid hb
       clear hb))
  go_ret
  exact ⟨rfl, HB.out⟩
def cloF (u : World) (n : Nat) (f : Nat → Value) : Fact := fun v W => ∃ g2 c2, v = .slice (some ⟨g2, 0, none⟩) n c2 ∧ u.heap.size ≤ g2 ∧ OwnC W u.heap.size 212 3 (some ⟨g2, 0, none⟩) n c2 f
theorem stb_cloF (u : World) (n : Nat) (f : Nat → Value) : Stb (cloF u n f) := fun _ _ _ ⟨g2, c2, e, h1, h2⟩ hb => ⟨g2, c2, e, h1, h2.below hb⟩
set_option maxHeartbeats 1000000 in
theorem tcopy_c {w : World} {p g n c : Nat} {e en mk : Int} {f : Nat → Value} {F : Nat → Prop} (h : PTY w p g n c e en mk f F) (hone : ∀ k, k < n * 3 → (f k).oneCell' = true) : Calls Tryz.prog 85 #[.pointer (some ⟨p, 0, none⟩)] w fun r w' => ∃ b g2 c2, r = .returned (.pointer (some ⟨b, 0, none⟩)) ∧ PTY w' b g2 n c2 e en mk f (fun k => k = b ∨ k = g2) ∧ w.heap.size ≤ b ∧ w.heap.size ≤ g2 ∧ Below w.heap.size w w' := by
  have HX := Lib.hid h
  have HONE := Lib.hid hone
  have HMd := Lib.hid (tmade_yes (blk_cell h.blk 0) h.pos.1)
  have HPOS := Lib.hid h.pos
  clear h hone
  go_enter Tryz.func85, Tryz.ntmps85
  go_upto_region 3 with (first
    | (go_at_call 130
       refine HMd.out.mono ?_
       rintro e u1 ⟨rfl, hb⟩
       have HX1 := Lib.hid (HX.out.step hb)
       have HB1 := Lib.hid hb
       clear hb))
  clear HMd
  refine wp_region_grow (C := fun W => Below u1.heap.size u1 W) 9 17 [val (.pointer (some ⟨p, 0, none⟩)), val (.pointer (some ⟨p, 0, none⟩)), val (.pointer (some ⟨p, 0, none⟩)), val (.slice (some ⟨g, 0, none⟩) n c), cloF u1 n f, val (.pointer (some ⟨p, 0, none⟩)), val (.pointer (some ⟨p, 0, none⟩)), val (.pointer (some ⟨p, 1, none⟩)), val (.agg #[.int .i64 e, .int .i64 en, .int .i64 mk])] (by kernel_rfl) rfl (by kernel_rfl) rfl ⟨stb_val _, stb_val _, stb_val _, stb_val _, stb_cloF _ _ _, stb_val _, stb_val _, stb_val _, stb_val _, trivial⟩ (Below.refl _ _).drew ?_ ?_
  · refine each_cons ?_ ?_
    · intro a W hW hd
      have h0 : a.tmps[0]?.getD undef = .pointer (some ⟨p, 0, none⟩) := slot_eq (hd 0 (by decide))
      exact grows_value _ hW (by simp [execOp, Act.eval, h0]) rfl
    refine each_cons ?_ ?_
    · intro a W hW hd
      have h6 : a.tmps[6]?.getD undef = .pointer (some ⟨p, 0, none⟩) := slot_eq (hd 6 (by decide))
      refine grows_value _ hW (?_ : _ = _) rfl
      clear hd
      go_simp
    refine each_cons ?_ ?_
    · intro a W hW hd
      have h7 : a.tmps[7]?.getD undef = .pointer (some ⟨p, 0, none⟩) := slot_eq (hd 7 (by decide))
      refine grows_value _ hW (?_ : _ = _) rfl
      clear hd
      go_simp
    refine each_cons ?_ ?_
    · intro a W hW hd
      have h8 : a.tmps[8]?.getD undef = .pointer (some ⟨p, 0, none⟩) := slot_eq (hd 8 (by decide))
      have yl : W.cell? ⟨p, 0, none⟩ = some (.slice (some ⟨g, 0, none⟩) n c) := blk_cell (PTY.step HX1.out hW).blk 0
      refine grows_value _ hW (?_ : _ = _) rfl
      clear hd
      go_simp
    refine each_cons ?_ ?_
    · intro a W hW hd
      have h9 : a.tmps[9]?.getD undef = .slice (some ⟨g, 0, none⟩) n c := slot_eq (hd 9 (by decide))
      refine grows_call (fn := 131) (args := #[.slice (some ⟨g, 0, none⟩) n c]) (by clear hd; go_simp) ?_
      refine (tclone_any (PTY.step HX1.out hW).row (by have := HX1.out.pos; omega) (HX1.out.pos).2 HONE.out).mono ?_
      rintro e W' ⟨g2, c2, rfl, hg, ho, hb⟩
      exact ⟨_, rfl, ⟨g2, c2, rfl, Nat.le_trans hW.size hg, ho.le hW.size⟩, hb, hW.trans (hb.mono hW.size)⟩
    refine each_cons ?_ ?_
    · intro a W hW hd
      have h0 : a.tmps[0]?.getD undef = .pointer (some ⟨p, 0, none⟩) := slot_eq (hd 0 (by decide))
      exact grows_value _ hW (by simp [execOp, Act.eval, h0]) rfl
    refine each_cons ?_ ?_
    · intro a W hW hd
      have h11 : a.tmps[11]?.getD undef = .pointer (some ⟨p, 0, none⟩) := slot_eq (hd 11 (by decide))
      refine grows_value _ hW (?_ : _ = _) rfl
      clear hd
      go_simp
    refine each_cons ?_ ?_
    · intro a W hW hd
      have h12 : a.tmps[12]?.getD undef = .pointer (some ⟨p, 0, none⟩) := slot_eq (hd 12 (by decide))
      refine grows_value _ hW (?_ : _ = _) rfl
      clear hd
      go_simp
    refine each_cons ?_ ?_
    · intro a W hW hd
      have h13 : a.tmps[13]?.getD undef = .pointer (some ⟨p, 1, none⟩) := slot_eq (hd 13 (by decide))
      have yl1 : W.cell? ⟨p, 1, none⟩ = some (.int .i64 e) := blk_cell (PTY.step HX1.out hW).blk 1
      have yl2 : W.cell? ⟨p, 2, none⟩ = some (.int .i64 en) := blk_cell (PTY.step HX1.out hW).blk 2
      have yl3 : W.cell? ⟨p, 3, none⟩ = some (.int .i64 mk) := blk_cell (PTY.step HX1.out hW).blk 3
      refine grows_value _ hW (?_ : _ = _) rfl
      clear hd
      go_simp
    exact each_nil
  · refine behind_val rfl ?_
    refine behind_val rfl ?_
    refine behind_val rfl ?_
    refine behind_val rfl ?_
    refine behind_cons fun v10 => ?_
    refine behind_val rfl ?_
    refine behind_val rfl ?_
    refine behind_val rfl ?_
    refine behind_val rfl ?_
    refine behind_nil fun v hCv hFv => ?_
    obtain ⟨_, g2, c2, hv10, hg2, ho2⟩ := hFv
    subst hv10
    simp only [Act.put, List.setIfInBounds_toArray, List.set_cons_succ, List.set_cons_zero, List.drop_succ_cons, List.drop_zero]
    have HO2 := Lib.hid ho2
    have HG2 := Lib.hid hg2
    have HB2 := Lib.hid hCv
    have hbd : ∀ (w : World), (Instr.build 185 #[(0, .slice (some ⟨g2, 0, none⟩) n c2), (1, .agg #[.int .i64 e, .int .i64 en, .int .i64 mk])]).run Tryz.prog w = .ok (.agg #[.slice (some ⟨g2, 0, none⟩) n c2, .int .i64 e, .int .i64 en, .int .i64 mk]) w := fun w => by kernel_rfl
    clear ho2 hCv hg2
    go_wp2_with fail
    go_ret
    have hbl := below_alloc v (.cells #[.slice (some ⟨g2, 0, none⟩) n c2, .int .i64 e, .int .i64 en, .int .i64 mk] 185)
    have hz : (v.alloc (.cells #[.slice (some ⟨g2, 0, none⟩) n c2, .int .i64 e, .int .i64 en, .int .i64 mk] 185)).heap.size = v.heap.size + 1 := by simp
    have q1 := HB1.out.size
    have q2 := HB2.out.size
    have q3 := ownC_lt HO2.out (by have := HPOS.out; omega)
    have q4 := HG2.out
    refine ⟨v.heap.size, g2, c2, rfl, ⟨heap_alloc_new v _, (HO2.out.below hbl).le (Nat.zero_le _), .inl rfl, .inr rfl, fun k hk => ?_, HX1.out.may⟩, by omega, by omega, (HB1.out.trans (HB2.out.mono HB1.out.size)).trans (hbl.mono (by omega))⟩
    rcases hk with rfl | rfl
    · omega
    · omega
theorem and_even (m : Nat) : (2 * m) &&& (2 * m - 1) = 2 * (m &&& (m - 1)) := by
  cases m with
  | zero => rfl
  | succ k =>
    refine Nat.eq_of_testBit_eq fun i => ?_
    cases i with
    | zero => simp [Nat.testBit_zero]
    | succ i =>
      rw [Nat.testBit_and, Nat.testBit_succ, Nat.testBit_succ, Nat.testBit_succ, show 2 * (k + 1) / 2 = k + 1 by omega, show (2 * (k + 1) - 1) / 2 = k by omega, show 2 * ((k + 1) &&& (k + 1 - 1)) / 2 = (k + 1) &&& (k + 1 - 1) by omega, Nat.testBit_and]
      rfl
theorem and_odd (m : Nat) : (2 * m + 1) &&& (2 * m) = 2 * m := by
  refine Nat.eq_of_testBit_eq fun i => ?_
  cases i with
  | zero => simp [Nat.testBit_zero]
  | succ i =>
    rw [Nat.testBit_and, Nat.testBit_succ, Nat.testBit_succ, show (2 * m + 1) / 2 = m by omega, show 2 * m / 2 = m by omega, Bool.and_self]
theorem pow_of_and : ∀ (n : Nat), 0 < n → n &&& (n - 1) = 0 → ∃ k, n = 2 ^ k := by
  intro n
  induction n using Nat.strongRecOn with
  | ind n ih =>
    intro h0 h
    rcases Nat.mod_two_eq_zero_or_one n with e | e
    · obtain ⟨m, rfl⟩ : ∃ m, n = 2 * m := ⟨n / 2, by omega⟩
      rw [and_even] at h
      obtain ⟨k, hk⟩ := ih m (by omega) (by omega) (by omega)
      exact ⟨k + 1, by rw [Nat.pow_succ, ← hk]; omega⟩
    · obtain ⟨m, rfl⟩ : ∃ m, n = 2 * m + 1 := ⟨n / 2, by omega⟩
      rw [show 2 * m + 1 - 1 = 2 * m by omega, and_odd] at h
      exact ⟨0, by rw [Nat.pow_zero]; omega⟩
theorem powJ_two : ∀ j, powJ j = 2 ^ (j + 3)
  | 0 => rfl
  | j + 1 => by
    show 2 * powJ j = _
    have e : 2 ^ (j + 1 + 3) = 2 ^ (j + 3) * 2 := Nat.pow_succ 2 (j + 3)
    rw [powJ_two j, e]
    omega
theorem may_and {n : Nat} (h1 : 8 ≤ n) (h2 : n ≤ 262144) : (mayI (n : Int) = true ↔ n &&& (n - 1) = 0) := by
  constructor
  · intro h
    obtain ⟨j, hj, e⟩ := mayI_pow h
    have e' : n = 2 ^ (j + 3) := by
      rw [← powJ_two]
      omega
    rw [e', Nat.and_two_pow_sub_one_eq_mod, Nat.mod_self]
  · intro h
    obtain ⟨k, hk⟩ := pow_of_and n (by omega) h
    have hlo : 3 ≤ k := by
      rcases Nat.lt_or_ge k 3 with q | q
      · have := Nat.pow_le_pow_right (n := 2) (by decide) (show k ≤ 2 by omega)
        have e : (2 : Nat) ^ 2 = 4 := by decide
        omega
      · exact q
    have hhi : k ≤ 18 := by
      rcases Nat.lt_or_ge 18 k with q | q
      · have := Nat.pow_le_pow_right (n := 2) (by decide) (show 19 ≤ k by omega)
        have e : (2 : Nat) ^ 19 = 524288 := by decide
        omega
      · exact q
    obtain ⟨j, rfl⟩ : ∃ j, k = j + 3 := ⟨k - 3, by omega⟩
    rw [hk, ← powJ_two]
    exact (powJ_all (by omega)).2.2.2
theorem bits_and {n m z : Nat} (hn : n ≤ 262144) (hm : m + 1 = n) (hz : z = n &&& m) : bits .and .i64 (n : Int) (m : Int) = (z : Int) := by
  have e := and_nat .i64 n m (Nat.lt_of_le_of_lt hn (by decide)) (Nat.lt_of_lt_of_le (show m < 262144 by omega) (by decide))
  rw [e, ← hz]
  refine wr_i64 z ?_
  have := Nat.and_le_left (n := n) (m := m)
  omega
theorem tnew_no {i : Int} (h : mayI i = false) (w : World) : Calls Tryz.prog 64 #[.int .i64 i] w (ret (.tuple #[.pointer none, .int .i64 2]) w) := by
  by_cases h1 : i < 8
  · clear h
    go_enter Tryz.func64, Tryz.ntmps64
    go_wp2_with fail
    go_ret2
    exact ⟨rfl, Below.refl _ _⟩
  · by_cases h2 : 262144 < i
    · clear h
      go_enter Tryz.func64, Tryz.ntmps64
      go_wp2_with fail
      go_ret2
      exact ⟨rfl, Below.refl _ _⟩
    · obtain ⟨n, rfl⟩ := Int.eq_ofNat_of_zero_le (show 0 ≤ i by omega)
      obtain ⟨m, hm⟩ : ∃ m, m = n - 1 := ⟨_, rfl⟩
      obtain ⟨z, hz⟩ : ∃ z, z = n &&& m := ⟨_, rfl⟩
      have hza := bits_and (n := n) (m := m) (by omega) (by omega) hz
      have z0 : ((z : Int) != 0) = true := by
        have : z ≠ 0 := fun e => by
          have := (may_and (n := n) (by omega) (by omega)).2 (by rw [← hm, ← hz, e])
          rw [h] at this
          cases this
        simp
        omega
      have zm : IntKind.i64.wrap ((n : Int) - 1) = (m : Int) := by rw [IntKind.wrap_i64]; omega
      clear h hm hz
      go_enter Tryz.func64, Tryz.ntmps64
      go_wp2_with fail
      go_ret2
      exact ⟨rfl, Below.refl _ _⟩
set_option maxHeartbeats 1000000 in
theorem tnew_yes {n : Nat} (h : mayI (n : Int) = true) (w : World) : Calls Tryz.prog 64 #[.int .i64 (n : Int)] w fun e w' => ∃ p F, e = .returned (.tuple #[.pointer (some ⟨p, 0, none⟩), .int .i64 0]) ∧ PT0 w' p (Tb.new n) F ∧ (∀ k, F k → w.heap.size ≤ k) ∧ Below w.heap.size w w' := by
  have hb : 8 ≤ n ∧ n ≤ 262144 := by
    obtain ⟨n', e, h1, h2⟩ := mayI_pos h
    omega
  obtain ⟨i0, hi0, hz0, hz1, hz2⟩ := info_parts Tryz.infoTP
  have hmk : ∀ W : World, ∃ w', (Instr.makeSlice 182 (.int .i64 (n : Int)) (.int .i64 (n : Int))).run Tryz.prog W = .ok (.slice (some ⟨W.heap.size, 0, none⟩) n n) w' ∧ OwnC w' W.heap.size 212 3 (some ⟨W.heap.size, 0, none⟩) n n (tcl (Tb.new n)) ∧ W.grownBy w' none := fun W => by
    obtain ⟨w', h1, h2, h3⟩ := run_make_full (P := Tryz.prog) (w := W) W.heap.size 182 212 i0 (.agg #[.int .u8 0, .int .u64 0, .int .u32 0]) 3 Tryz.underlying182 hi0 hz0 hz1 .i64 .i64 n (by rw [hz2]; omega) (by unfold maxLen; omega) (Nat.le_refl _)
    refine ⟨w', h1, ?_, h3⟩
    unfold OwnC
    have e1 : (madeCells (Value.agg #[.int .u8 0, .int .u64 0, .int .u32 0]).cells (n * 3)).toList = vals (n * 3) (tcl (Tb.new n)) := by
      refine vals_eq (by simp [size_madeCells]) fun k hk => ?_
      show (madeCells #[.int .u8 0, .int .u64 0, .int .u32 0] (n * 3)).toList[k]? = _
      unfold tcl
      simp [madeCells]
      refine ⟨k, List.getElem?_range hk, ?_⟩
      rcases (show k % 3 = 0 ∨ k % 3 = 1 ∨ k % 3 = 2 by omega) with e | e | e
      · rw [e]; rfl
      · rw [e]; rfl
      · rw [e]; rfl
    rw [← e1]
    exact h2
  obtain ⟨u1, hm, ho, hg⟩ := hmk w
  have HO := Lib.hid ho
  have HB : Hid (Below w.heap.size w u1) := Lib.hid ((Below.refl _ _).grown hg (Nat.le_refl _) fun _ h => nomatch h)
  have HMAY := Lib.hid h
  have hbd : ∀ (A : Option Addr) (w : World), (Instr.build 185 #[(0, .slice A n n)]).run Tryz.prog w = .ok (.agg #[.slice A n n, .int .i64 0, .int .i64 0, .int .i64 0]) w := fun A w => by kernel_rfl
  have n1 : ¬ (n : Int) < 8 := by omega
  have n2 : ¬ (262144 : Int) < (n : Int) := by omega
  obtain ⟨m, hmm⟩ : ∃ m, m = n - 1 := ⟨_, rfl⟩
  have hza := bits_and (n := n) (m := m) (z := 0) (by omega) (by omega) (by rw [hmm]; exact ((may_and hb.1 hb.2).1 h).symm)
  have zm : IntKind.i64.wrap ((n : Int) - 1) = (m : Int) := by rw [IntKind.wrap_i64]; omega
  have HP := Lib.hid hb
  clear ho hg hmk hi0 hz0 hz1 hz2 hmm h hb
  go_enter Tryz.func64, Tryz.ntmps64
  go_upto_region 4 with fail
  have HM2 : Hid ((u1.alloc (.cells #[.slice (some ⟨w.heap.size, 0, none⟩) n n, .int .i64 0, .int .i64 0, .int .i64 0] 185)).heap[u1.heap.size]? = some (.cells #[.slice (some ⟨w.heap.size, 0, none⟩) n n, .int .i64 0, .int .i64 0, .int .i64 0] 185 (0, 0))) := Lib.hid (heap_alloc_new u1 _)
  have HB2 := Lib.hid (HB.out.alloc HB.out.size (.cells #[.slice (some ⟨w.heap.size, 0, none⟩) n n, .int .i64 0, .int .i64 0, .int .i64 0] 185))
  have HO2 := Lib.hid (HO.out.alloc (.cells #[.slice (some ⟨w.heap.size, 0, none⟩) n n, .int .i64 0, .int .i64 0, .int .i64 0] 185))
  have hws := HB.out.size
  have hgl := ownC_lt HO.out (by have := HP.out; omega)
  obtain ⟨p, hp⟩ : ∃ p, p = u1.heap.size := ⟨_, rfl⟩
  have HPW : Hid (w.heap.size < p) := Lib.hid (by omega)
  rw [← hp] at HM2 ⊢
  clear hp hws hgl HB HO hm
  generalize u1.alloc (.cells #[.slice (some ⟨w.heap.size, 0, none⟩) n n, .int .i64 0, .int .i64 0, .int .i64 0] 185) = u2 at *
  have x1 : u2.cell? ⟨p, 1, none⟩ = some (.int .i64 0) := blk_cell HM2.out 1
  have y1 := blk_free HM2.out 1
  go_wp2_with fail
  go_ret2
  have hpu := lt_heap HM2.out
  have hgu := ownC_lt HO2.out (by have := HP.out; omega)
  have e0 : (Tb.new n).entries = 0 := cntI_zero fun _ _ => rfl
  have e1 : (Tb.new n).marks = 0 := cntI_zero fun _ _ => rfl
  have hpw := HPW.out
  refine ⟨p, rfl, fun k => k = p ∨ k = w.heap.size, ⟨w.heap.size, n, (n : Int), ⟨?_, ?_, .inl rfl, .inr rfl, fun k hk => ?_, HMAY.out⟩⟩, fun k hk => ?_, HB2.out.setCell (p := ⟨p, 1, none⟩) (by show w.heap.size ≤ p; omega) _⟩
  · rw [e0, e1]
    exact blk_set HM2.out 1 _
  · exact (HO2.out.le (Nat.zero_le _)).block (Below.heap_setCell u2 ⟨p, 1, none⟩ _ w.heap.size (by show w.heap.size ≠ p; omega))
  · have : (u2.setCell ⟨p, 1, none⟩ (.int .i64 (n : Int))).heap.size = u2.heap.size := by simp
    rcases hk with rfl | rfl
    · omega
    · omega
  · rcases hk with rfl | rfl
    · omega
    · omega
end Go.Proofs.YtimcdnbfdkpffaaGreat
/- Stage 13: the landed table is one that the laws speak of. -/
namespace Go.Proofs.YtimcdnbfdkpffaaGreat
set_option maxRecDepth 100000
open Go.RowKit Go.Shelf
def g0 : Nat := 0
theorem tabP : TabP PT0 g0 where
  foot := footPT0
  new_no := fun n w h => tnew_no h w
  new := fun n w h => tnew_yes h w
  put := fun h hs y x hy hx => by
    obtain ⟨g, c, e, h⟩ := h
    refine (tput_any h hs y x hy).mono ?_
    rintro r w' ⟨rfl, ⟨e', h1⟩, h2⟩
    exact ⟨rfl, _, ⟨g, c, e', h1⟩, ⟨fun k q => .inl q, h2⟩⟩
  drop := fun h hs q => by
    obtain ⟨g, c, e, h⟩ := h
    refine (tdrop_any h hs q).mono ?_
    rintro r w' ⟨rfl, ⟨e', h1⟩, h2⟩
    exact ⟨rfl, _, ⟨g, c, e', h1⟩, ⟨fun k q => .inl q, h2⟩⟩
  find := fun h hs y hy fid cap ans J HA hR hJ => by
    obtain ⟨g, c, e, h⟩ := h
    exact tfind_any h hs y hy fid cap ans _ J HA hR hJ
  get := fun h _ q => by
    obtain ⟨g, c, e, h⟩ := h
    exact tget_any h q
  places := fun h _ => by
    obtain ⟨g, c, e, h⟩ := h
    exact tplaces h
  entries := fun h _ => by
    obtain ⟨g, c, e, h⟩ := h
    exact tentries_c (tcount_1 h)
  marks := fun h _ => by
    obtain ⟨g, c, e, h⟩ := h
    exact tmarks_c (tcount_2 h)
  copy := fun h _ => by
    obtain ⟨g, c, e, h⟩ := h
    refine (tcopy_c h fun k _ => tcl_one _ k).mono ?_
    rintro r w' ⟨b, g2, c2, rfl, h1, h2, h3, h4⟩
    refine ⟨b, _, rfl, ⟨g2, c2, e, h1⟩, fun k q => ?_, h4⟩
    rcases q with rfl | rfl
    · exact h2
    · exact h3
end Go.Proofs.YtimcdnbfdkpffaaGreat
/- Stage 14: the document's growing table in memory; begins, size, New. -/
namespace Go.Proofs.YtimcdnbfdkpffaaGreat
set_option maxRecDepth 100000
open Go.RowKit Go.Shelf
section
variable {w w' : World} {q qn qx : Nat} {s : Gr} {G Gn Gx : Nat → Prop}
theorem tent_le {t : Tb} (ht : t.Ok) : t.entries ≤ 262144 ∧ t.marks ≤ 262144 := ⟨Nat.le_trans (cntI_le _ _) ht.top, Nat.le_trans (cntI_le _ _) ht.top⟩
end
end Go.Proofs.YtimcdnbfdkpffaaGreat
