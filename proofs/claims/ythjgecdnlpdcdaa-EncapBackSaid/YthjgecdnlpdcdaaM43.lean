import Derived.Test.YthjgecdnlpdcdaaM42
/- Layer 8, the program: the two modes. -/
namespace Go.Proofs.Ythjgecdnlpdcdaa
set_option maxRecDepth 100000
open Go.RowKit
/-- What a mode tells. -/
def MdW (v : Bool) (m : Int) (s d : Nat → Int) (sp : Int) (n : Nat) (f : Nat → Int) (w : World) (e : Ending) (w' : World) : Prop :=
  (1660 < wrN v m + n ∧ WriteS w.heap.size 5 (fun _ => 0) 0 3 w e w') ∨ (wrN v m + n ≤ 1660 ∧ ∃ g, Wd v m s d sp n f g ∧ WriteS w.heap.size 5 g (wrN v m + n) 0 w e w')
theorem knd_ext (f : Nat → Int) (n : Nat) (h : knd f n ≠ 0) : (0 ≤ knd f n ∧ knd f n ≤ 255) ∧ ext6 (knd f n) = false := by
  rcases knd_or f n with q | q | q
  · exact absurd q h
  · rw [q]; exact ⟨⟨by omega, by omega⟩, rfl⟩
  · rw [q]; exact ⟨⟨by omega, by omega⟩, rfl⟩
set_option maxHeartbeats 1000000 in
theorem ipip_any (v : Bool) (s d : Nat → Int) (hs : Byt s) (hd : Byt d) (h4 : v = false → fourB s = true ∧ fourB d = true) (B : Option Addr) (n c : Nat) (f : Nat → Int) (hf : Byt f) (hn : n ≤ 3000) (hk : knd f n ≠ 0) (w : World) (hr : Rd w w.heap.size B n f) :
    Calls Try.prog 9 #[.agg (wrpc v 1 s d 0 (knd f n) (.slice B n c))] w (MdW v 1 s d 0 n f w) := by
  have hke := knd_ext f n hk
  have HP := Lib.hid (pack_any v 1 s d 0 (knd f n) B n c hs hd h4 (knd f n) hke.1 hke.2 B n c f hf (by omega))
  have HWD : Hid (∀ g, IpW v (knd f n) s d n f g → Wd v 1 s d 0 n f g) := Lib.hid fun g => wd_ipip hk
  have HR := Lib.hid hr
  clear hs hd h4 hf hn hk hr hke
  generalize knd f n = kd at *
  have HM : Hid (Mem w (w.alloc (.cells (wrpc v 1 s d 0 kd (.slice B n c)) 40)) [(w.heap.size, .cells (wrpc v 1 s d 0 kd (.slice B n c)) 40 (0, 0))]) := Lib.hid ((Mem.nil w).alloc (.cells (wrpc v 1 s d 0 kd (.slice B n c)) 40))
  go_enter Try.func9, Try.ntmps9
  go_upto_region 1 with fail
  change Code.wp _ _ _ _ (w.alloc (.cells (wrpc v 1 s d 0 kd (.slice B n c)) 40))
  generalize w.alloc (.cells (wrpc v 1 s d 0 kd (.slice B n c)) 40) = u1 at *
  have x35 : u1.cell? ⟨w.heap.size, 35, none⟩ = some (.int .u8 kd) := blk_cell (HM.out.get 0 rfl) 35
  have x36 : u1.cell? ⟨w.heap.size, 36, none⟩ = some (.slice B n c) := blk_cell (HM.out.get 0 rfl) 36
  go_wp2_with (first
    | (refine wpList_load_row rfl 40 (.tmp 1) rfl w.heap.size rfl 40 (wrpc v 1 s d 0 kd (.slice B n c)) (0, 0) _ (HM.out.get 0 rfl) Try.underlying40 rfl (by kernel_rfl) ?_))
  go_at_call 14
  refine (HP.out u1 (HM.out.rd HR.out)).mono ?_
  rintro e u2 (⟨h1, U, cu, rfl, ho, hb⟩ | ⟨h1, g, hg, U, cu, rfl, ho, hb⟩)
  · have HO := Lib.hid ho
    have HB := Lib.hid hb
    have H1 := Lib.hid h1
    clear ho hb h1
    go_wp2
    go_ret2
    exact .inl ⟨H1.out, U, cu, rfl, HO.out.le HM.out.below.size, HM.out.below.trans (HB.out.mono HM.out.below.size)⟩
  · have HO := Lib.hid ho
    have HB := Lib.hid hb
    have H1 := Lib.hid h1
    have HG := Lib.hid hg
    clear ho hb h1 hg
    go_wp2
    go_ret2
    exact .inr ⟨H1.out, g, HWD.out g HG.out, U, cu, rfl, HO.out.le HM.out.below.size, HM.out.below.trans (HB.out.mono HM.out.below.size)⟩
/-- A datagram that was written, or that would be too long. -/
def dgF (base m : Nat) (g : Nat → Int) : Fact := fun v W => (1660 < 8 + m ∧ ∃ U cu, v = .tuple #[.slice U 0 cu, .int .i64 3]) ∨ (8 + m ≤ 1660 ∧ ∃ U cu, v = .tuple #[.slice U (8 + m) cu, .int .i64 0] ∧ Own W base 5 U (8 + m) cu g)
theorem wrU_any (v : Bool) (s d : Nat → Int) (hs : Byt s) (hd : Byt d) (sp : Int) (h1 : 0 ≤ sp ∧ sp ≤ 65535) (m : Nat) (hm : m ≤ 4000) (f : Nat → Int) (hf : Byt f) (A : Option Addr) (c : Nat) (w : World) (hr : Rd w w.heap.size A m f) :
    Calls Try.prog 15 #[.bool v, .agg (arr16 s), .agg (arr16 d), .agg (udpc sp 6080 false), .slice A m c] w fun e w' => ∃ x, e = .returned x ∧ dgF w.heap.size m (udpB sp 6080 (8 + (m : Int)) (udpS false (psq v s d 17 (8 + m)) (udpB sp 6080 (8 + (m : Int)) 0 f) (8 + m)) f) x w' ∧ Below w.heap.size w w' := by
  refine (writeU_any v s d hs hd sp 6080 false A m c f h1 ⟨by omega, by omega⟩ hf hm w hr).mono ?_
  rintro e w' (⟨h, U, cu, rfl, ho, hb⟩ | ⟨h, U, cu, rfl, ho, hb⟩)
  · have q : udpX v false m = 3 ∧ 1660 < 8 + m := by
      unfold udpX at h ⊢
      rw [if_neg (by simp)] at h ⊢
      by_cases c : 1660 < 8 + m
      · rw [if_pos c]; exact ⟨rfl, c⟩
      · rw [if_neg c] at h; exact absurd rfl h
    rw [q.1]
    exact ⟨_, rfl, .inl ⟨q.2, U, cu, rfl⟩, hb⟩
  · exact ⟨_, rfl, .inr ⟨(udpX_ok h).2, U, cu, rfl, ho⟩, hb⟩
theorem udpB_byt' (v : Bool) {s d : Nat → Int} (hs : Byt s) (hd : Byt d) {sp : Int} (h1 : 0 ≤ sp ∧ sp ≤ 65535) {m : Nat} (hm : 8 + m ≤ 1660) {f : Nat → Int} (hf : Byt f) : Byt (udpB sp 6080 (8 + (m : Int)) (udpS false (psq v s d 17 (8 + m)) (udpB sp 6080 (8 + (m : Int)) 0 f) (8 + m)) f) :=
  (udp_back (v6 := v) (ns := false) (sp := sp) (dp := 6080) (S := psq v s d 17 (8 + m)) (n := m) (f := f) h1 ⟨by omega, by omega⟩ hf (psq_bd v hs hd (by omega) (by omega) _) (by
    unfold udpX
    rw [if_neg (by simp), if_neg (by omega)]) _ rfl).1
theorem build_ud (sp : Int) (w : World) : (Instr.build 53 #[(0, .int .u16 sp), (1, .int .u16 6080)]).run Try.prog w = .ok (.agg (udpc sp 6080 false)) w := by kernel_rfl
set_option maxHeartbeats 2000000 in
theorem gue_any (v : Bool) (s d : Nat → Int) (hs : Byt s) (hd : Byt d) (h4 : v = false → fourB s = true ∧ fourB d = true) (sp : Int) (hsp : 0 ≤ sp ∧ sp ≤ 65535) (B : Option Addr) (n c : Nat) (f : Nat → Int) (hf : Byt f) (hn : n ≤ 3000) (w : World) (hr : Rd w w.heap.size B n f) :
    Calls Try.prog 10 #[.agg (wrpc v 2 s d sp (knd f n) (.slice B n c))] w (MdW v 2 s d sp n f w) := by
  obtain ⟨i0, hi0, hz0, hz1, hz2⟩ := info_parts Try.info5
  have HI0 := Lib.hid hi0
  have HZ0 := Lib.hid hz0
  have HZ1 := Lib.hid hz1
  have HZ2 := Lib.hid hz2
  clear hi0 hz0 hz1 hz2
  have hk2 := knd_or f n
  have hpb : Byt (cat 4 (four 0 (knd f n) 0 0) f) := cat_byt 4 (fun k => by unfold four; split <;> (try split) <;> (try split) <;> omega) hf
  obtain ⟨PB, hPB⟩ : ∃ PB, PB = cat 4 (four 0 (knd f n) 0 0) f := ⟨_, rfl⟩
  obtain ⟨UB, hUB⟩ : ∃ UB, UB = udpB sp 6080 (8 + ((4 + n : Nat) : Int)) (udpS false (psq v s d 17 (8 + (4 + n))) (udpB sp 6080 (8 + ((4 + n : Nat) : Int)) 0 PB) (8 + (4 + n))) PB := ⟨_, rfl⟩
  have HWU : Hid (∀ A c W, Rd W W.heap.size A (4 + n) PB → Calls Try.prog 15 #[.bool v, .agg (arr16 s), .agg (arr16 d), .agg (udpc sp 6080 false), .slice A (4 + n) c] W fun e w' => ∃ x, e = .returned x ∧ dgF W.heap.size (4 + n) UB x w' ∧ Below W.heap.size W w') := Lib.hid fun A c W hr => by
    have q := wrU_any v s d hs hd sp hsp (4 + n) (by omega) PB (by rw [hPB]; exact hpb) A c W hr
    rw [← hUB] at q
    exact q
  have HWD : Hid (8 + (4 + n) ≤ 1660 → ∀ g, IpW v 17 s d (8 + (4 + n)) UB g → Wd v 2 s d sp n f g) := Lib.hid fun hh g hg => wd_gue hs hd hsp hf (by omega) (by rw [hUB, hPB]) hg
  have HPK : Hid (∀ A m c', m ≤ 1660 → ∀ W, m = 8 + (4 + n) → Rd W W.heap.size A m UB → Calls Try.prog 14 #[.agg (wrpc v 2 s d sp (knd f n) (.slice B n c)), .int .u8 17, .slice A m c'] W (PkW v 17 s d m UB W)) := Lib.hid fun A m c' hm W e hr => pack_any v 2 s d sp (knd f n) B n c hs hd h4 17 ⟨by omega, by omega⟩ rfl A m c' UB (by rw [hUB]; exact udpB_byt' v hs hd hsp (by omega) (by rw [hPB]; exact hpb)) (by omega) W hr
  have HPB : Hid (∀ k, PB k = cat 4 (four 0 (knd f n) 0 0) f k) := Lib.hid fun k => by rw [hPB]
  have HR := Lib.hid hr
  clear hs hd h4 hf hr hPB hUB hpb hk2
  generalize knd f n = kd at *
  have e1 : (w.alloc (.cells (wrpc v 2 s d sp kd (.slice B n c)) 40)).heap.size = w.heap.size + 1 := by simp
  have e2 : ((w.alloc (.cells (wrpc v 2 s d sp kd (.slice B n c)) 40)).alloc (.cells outz 25)).heap.size = w.heap.size + 1 + 1 := by simp
  have HW1 : Hid ((w.alloc (.cells (wrpc v 2 s d sp kd (.slice B n c)) 40)).heap[w.heap.size]? = some (.cells (wrpc v 2 s d sp kd (.slice B n c)) 40 (0, 0))) := heap_alloc_new w _
  have HN : Hid (((w.alloc (.cells (wrpc v 2 s d sp kd (.slice B n c)) 40)).alloc (.cells outz 25)).heap[w.heap.size + 1]? = some (.cells outz 25 (0, 0))) := by rw [← e1]; exact heap_alloc_new _ _
  have HM0 : Hid (Mem w (((w.alloc (.cells (wrpc v 2 s d sp kd (.slice B n c)) 40)).alloc (.cells outz 25)).setRow (w.heap.size + 1) (outc v 2 s d sp)) [(w.heap.size, .cells (wrpc v 2 s d sp kd (.slice B n c)) 40 (0, 0)), (w.heap.size + 1, .cells (outc v 2 s d sp) 25 (0, 0))]) := Lib.hid ((((Mem.nil w).alloc (.cells (wrpc v 2 s d sp kd (.slice B n c)) 40)).new (.cells outz 25) (w.heap.size + 1) e1.symm).row 1 rfl (outc v 2 s d sp))
  have hs2 : (((w.alloc (.cells (wrpc v 2 s d sp kd (.slice B n c)) 40)).alloc (.cells outz 25)).setRow (w.heap.size + 1) (outc v 2 s d sp)).heap.size = w.heap.size + 1 + 1 := by simp
  clear e1 e2
  go_enter Try.func10, Try.ntmps10
  go_upto_region 2 with (first
    | (refine wpList_load_mid rfl 25 (.tmp 8) rfl w.heap.size 0 rfl (outc v 2 s d sp).toList _ (wrp_outer HW1.out) Try.underlying25 rfl (by kernel_rfl) ?_)
    | (refine wpList_store_row rfl 25 (.tmp 4) (.tmp 9) rfl (w.heap.size + 1) (outc v 2 s d sp) rfl rfl 25 outz HN.out (by kernel_rfl) rfl (out_one ..) ?_))
  change Code.wp _ _ _ _ (((w.alloc (.cells (wrpc v 2 s d sp kd (.slice B n c)) 40)).alloc (.cells outz 25)).setRow (w.heap.size + 1) (outc v 2 s d sp))
  clear HN HW1
  generalize ((w.alloc (.cells (wrpc v 2 s d sp kd (.slice B n c)) 40)).alloc (.cells outz 25)).setRow (w.heap.size + 1) (outc v 2 s d sp) = u1 at *
  have x34 : u1.cell? ⟨w.heap.size + 1, 34, none⟩ = some (.int .u16 sp) := blk_cell (HM0.out.get 1 rfl) 34
  have hbu := build_ud sp
  have HN : Hid ((u1.alloc (.cells udpz 53)).heap[w.heap.size + 1 + 1]? = some (.cells udpz 53 (0, 0))) := by rw [← hs2]; exact heap_alloc_new _ _
  have HM : Hid (Mem w ((u1.alloc (.cells udpz 53)).setRow (w.heap.size + 1 + 1) (udpc sp 6080 false)) [(w.heap.size, .cells (wrpc v 2 s d sp kd (.slice B n c)) 40 (0, 0)), (w.heap.size + 1, .cells (outc v 2 s d sp) 25 (0, 0)), (w.heap.size + 1 + 1, .cells (udpc sp 6080 false) 53 (0, 0))]) := Lib.hid (HM0.out.newrow udpz (udpc sp 6080 false) 53 (w.heap.size + 1 + 1) hs2.symm)
  go_upto_region 3 with (first
    | (refine wpList_store_row rfl 53 (.tmp 5) (.tmp 12) rfl (w.heap.size + 1 + 1) (udpc sp 6080 false) rfl rfl 53 udpz HN.out (by kernel_rfl) rfl (udp_one ..) ?_))
  have HR3 : Hid (Rd ((u1.alloc (.cells udpz 53)).setRow (w.heap.size + 1 + 1) (udpc sp 6080 false)) ((u1.alloc (.cells udpz 53)).setRow (w.heap.size + 1 + 1) (udpc sp 6080 false)).heap.size B n f) := Lib.hid (HM.out.rd HR.out)
  change Code.wp _ _ _ _ ((u1.alloc (.cells udpz 53)).setRow (w.heap.size + 1 + 1) (udpc sp 6080 false))
  clear HN HM0 hbu x34 hs2
  generalize (u1.alloc (.cells udpz 53)).setRow (w.heap.size + 1 + 1) (udpc sp 6080 false) = u3 at *
  by_cases hLO : 1660 < 8 + (4 + n)
  · have HLO := Lib.hid hLO
    clear hLO
    refine wp_region_grow (C := fun W => Below u3.heap.size u3 W) 19 38 [val (.pointer (some ⟨w.heap.size + 1, 0, none⟩)), val (.bool v), val (.pointer (some ⟨w.heap.size + 1, 2, none⟩)), val (.agg (arr16 s)), val (.pointer (some ⟨w.heap.size + 1, 18, none⟩)), val (.agg (arr16 d)), val (.agg (udpc sp 6080 false)), val (.pointer (some ⟨w.heap.size, 35, none⟩)), val (.int .u8 kd), (fun v W => ∃ z, v = .slice (some ⟨z, 0, none⟩) 4 4 ∧ Own W u3.heap.size 5 (some ⟨z, 0, none⟩) 4 4 (four 0 kd 0 0)), val (.pointer (some ⟨w.heap.size, 36, none⟩)), val (.slice B n c), ownF u3 (4 + n) PB, (fun v _ => ∃ U cu, v = .tuple #[.slice U 0 cu, .int .i64 3]), (fun v _ => ∃ U cu, v = .tuple #[.slice U 0 cu, .int .i64 3]), (fun v _ => ∃ U cu, v = .slice U 0 cu), val (.int .i64 3), (fun v _ => ∃ U cu, v = .slice U 0 cu), val (.int .i64 3)] (by kernel_rfl) rfl (by kernel_rfl) rfl ⟨stb_val _, stb_val _, stb_val _, stb_val _, stb_val _, stb_val _, stb_val _, stb_val _, stb_val _, (fun _ _ _ ⟨z, h, ho⟩ hb => ⟨z, h, ho.below hb⟩), stb_val _, stb_val _, stb_own _ _ _, (fun _ _ _ h _ => h), (fun _ _ _ h _ => h), (fun _ _ _ h _ => h), stb_val _, (fun _ _ _ h _ => h), stb_val _, trivial⟩ (Below.refl _ _).drew ?_ ?_
    · refine each_cons ?_ ?_
      · intro a W hW hd
        have h4 : a.tmps[4]?.getD undef = .pointer (some ⟨w.heap.size + 1, 0, none⟩) := slot_eq (hd 4 (by decide))
        refine grows_value _ hW (?_ : _ = _) rfl
        clear hd
        go_simp
      refine each_cons ?_ ?_
      · intro a W hW hd
        have h14 : a.tmps[14]?.getD undef = .pointer (some ⟨w.heap.size + 1, 0, none⟩) := slot_eq (hd 14 (by decide))
        have xx : W.cell? ⟨w.heap.size + 1, 0, none⟩ = some (.bool v) := blk_cell ((hW.block _ (lt_heap (HM.out.get 1 rfl))).trans (HM.out.get 1 rfl)) 0
        refine grows_value _ hW (?_ : _ = _) rfl
        clear hd
        go_simp
      refine each_cons ?_ ?_
      · intro a W hW hd
        have h4 : a.tmps[4]?.getD undef = .pointer (some ⟨w.heap.size + 1, 0, none⟩) := slot_eq (hd 4 (by decide))
        refine grows_value _ hW (?_ : _ = _) rfl
        clear hd
        go_simp
      refine each_cons ?_ ?_
      · intro a W hW hd
        have h16 : a.tmps[16]?.getD undef = .pointer (some ⟨w.heap.size + 1, 2, none⟩) := slot_eq (hd 16 (by decide))
        refine grows_value (.agg (arr16 s)) hW (?_ : _ = _) rfl
        clear hd
        have hc : W.rangeAt (w.heap.size + 1) 2 (arr16 s).toList := blk_range ((hW.block _ (lt_heap (HM.out.get 1 rfl))).trans (HM.out.get 1 rfl)) (fun k hk => out_srcs k hk)
        have e := run_loadVar_mid (P := Try.prog) W (w.heap.size + 1) 2 22 (arr16 s).toList _ hc Try.underlying22 rfl (by kernel_rfl)
        rw [Array.toArray_toList] at e
        simp only [execOp, Act.eval, Array.getD_eq_getD_getElem?, h16, Instr.loadAt, Instr.sureAddr, Sem.run_bind, Sem.run_pure, Result.andThen_ok, e]
      refine each_cons ?_ ?_
      · intro a W hW hd
        have h4 : a.tmps[4]?.getD undef = .pointer (some ⟨w.heap.size + 1, 0, none⟩) := slot_eq (hd 4 (by decide))
        refine grows_value _ hW (?_ : _ = _) rfl
        clear hd
        go_simp
      refine each_cons ?_ ?_
      · intro a W hW hd
        have h18 : a.tmps[18]?.getD undef = .pointer (some ⟨w.heap.size + 1, 18, none⟩) := slot_eq (hd 18 (by decide))
        refine grows_value (.agg (arr16 d)) hW (?_ : _ = _) rfl
        clear hd
        have hc : W.rangeAt (w.heap.size + 1) 18 (arr16 d).toList := blk_range ((hW.block _ (lt_heap (HM.out.get 1 rfl))).trans (HM.out.get 1 rfl)) (fun k hk => out_dsts k hk)
        have e := run_loadVar_mid (P := Try.prog) W (w.heap.size + 1) 18 22 (arr16 d).toList _ hc Try.underlying22 rfl (by kernel_rfl)
        rw [Array.toArray_toList] at e
        simp only [execOp, Act.eval, Array.getD_eq_getD_getElem?, h18, Instr.loadAt, Instr.sureAddr, Sem.run_bind, Sem.run_pure, Result.andThen_ok, e]
      refine each_cons ?_ ?_
      · intro a W hW hd
        have h5 : a.tmps[5]?.getD undef = .pointer (some ⟨w.heap.size + 1 + 1, 0, none⟩) := slot_eq (hd 5 (by decide))
        refine grows_value (.agg (udpc sp 6080 false)) hW (?_ : _ = _) rfl
        clear hd
        simp only [execOp, Act.eval, Array.getD_eq_getD_getElem?, h5, Instr.loadAt, Instr.sureAddr, Sem.run_bind, Sem.run_pure, Result.andThen_ok, run_loadVar_row W (w.heap.size + 1 + 1) 53 53 (udpc sp 6080 false) (0, 0) _ ((hW.block _ (lt_heap (HM.out.get 2 rfl))).trans (HM.out.get 2 rfl)) Try.underlying53 rfl (by kernel_rfl)]
      refine each_cons ?_ ?_
      · intro a W hW hd
        have h1 : a.tmps[1]?.getD undef = .pointer (some ⟨w.heap.size, 0, none⟩) := slot_eq (hd 1 (by decide))
        refine grows_value _ hW (?_ : _ = _) rfl
        clear hd
        go_simp
      refine each_cons ?_ ?_
      · intro a W hW hd
        have h21 : a.tmps[21]?.getD undef = .pointer (some ⟨w.heap.size, 35, none⟩) := slot_eq (hd 21 (by decide))
        have xx : W.cell? ⟨w.heap.size, 35, none⟩ = some (.int .u8 kd) := blk_cell ((hW.block _ (lt_heap (HM.out.get 0 rfl))).trans (HM.out.get 0 rfl)) 35
        refine grows_value _ hW (?_ : _ = _) rfl
        clear hd
        go_simp
      refine each_cons ?_ ?_
      · intro a W hW hd
        have h22 : a.tmps[22]?.getD undef = .int .u8 kd := slot_eq (hd 22 (by decide))
        refine grows_new (.slice (some ⟨W.heap.size, 0, none⟩) 4 4) (w' := W.alloc (.cells #[.int .u8 0, .int .u8 kd, .int .u8 0, .int .u8 0] 5)) (?_ : _ = _) ⟨_, rfl, own_new 4 (four 0 kd 0 0) hW.size (by omega) rfl _ rfl⟩ (below_alloc _ _) (hW.alloc hW.size _)
        clear hd
        go_simp
      refine each_cons ?_ ?_
      · intro a W hW hd
        have h1 : a.tmps[1]?.getD undef = .pointer (some ⟨w.heap.size, 0, none⟩) := slot_eq (hd 1 (by decide))
        refine grows_value _ hW (?_ : _ = _) rfl
        clear hd
        go_simp
      refine each_cons ?_ ?_
      · intro a W hW hd
        have h24 : a.tmps[24]?.getD undef = .pointer (some ⟨w.heap.size, 36, none⟩) := slot_eq (hd 24 (by decide))
        have xx : W.cell? ⟨w.heap.size, 36, none⟩ = some (.slice B n c) := blk_cell ((hW.block _ (lt_heap (HM.out.get 0 rfl))).trans (HM.out.get 0 rfl)) 36
        refine grows_value _ hW (?_ : _ = _) rfl
        clear hd
        go_simp
      refine each_cons ?_ ?_
      · intro a W hW hd
        have h25 : a.tmps[25]?.getD undef = .slice B n c := slot_eq (hd 25 (by decide))
        obtain ⟨z, h23, ho⟩ := hd 23 (by decide)
        have h23' : a.tmps[23]?.getD undef = .slice (some ⟨z, 0, none⟩) 4 4 := slot_eq h23
        obtain ⟨A2, c2, w', hrun, hown, hb⟩ := run_append_full (P := Try.prog) u3.heap.size 26 26 5 i0 Try.underlying26 HI0.out HZ0.out HZ1.out HZ2.out ho (by omega) (c' := c) ((HR3.out.keep hW).more hW.size) (by omega) hW.size
        refine grows_new (.slice A2 (4 + n) c2) (w' := w') ?_ ⟨A2, c2, rfl, hown.same fun k _ => HPB.out k⟩ hb (hW.trans (hb.mono hW.size))
        clear hd
        simp only [execOp, resolve, invoke, builtin, Sem.run_bind, Sem.run_pure, Result.andThen_ok, List.map_toArray, List.map_cons, List.map_nil, Act.eval, Array.getD_eq_getD_getElem?, h23', h25, hrun]
      refine each_cons ?_ ?_
      · intro a W hW hd
        have h15 : a.tmps[15]?.getD undef = .bool v := slot_eq (hd 15 (by decide))
        have h17 : a.tmps[17]?.getD undef = .agg (arr16 s) := slot_eq (hd 17 (by decide))
        have h19 : a.tmps[19]?.getD undef = .agg (arr16 d) := slot_eq (hd 19 (by decide))
        have h20 : a.tmps[20]?.getD undef = .agg (udpc sp 6080 false) := slot_eq (hd 20 (by decide))
        obtain ⟨A5, c5, h26, ho⟩ := hd 26 (by decide)
        have h26' : a.tmps[26]?.getD undef = .slice A5 (4 + n) c5 := slot_eq h26
        refine grows_call (fn := 15) (args := #[.bool v, .agg (arr16 s), .agg (arr16 d), .agg (udpc sp 6080 false), .slice A5 (4 + n) c5]) ?_ ?_
        · clear hd
          go_simp
        · refine (HWU.out A5 c5 W ho.rd).mono ?_
          rintro e w' ⟨x, he, hx, hb⟩
          refine ⟨x, he, ?_, hb, hW.trans (hb.mono hW.size)⟩
          rcases hx with ⟨h1, U, cu, h2⟩ | ⟨h1, U, cu, h2, h3⟩
          · exact ⟨U, cu, h2⟩
          · exact absurd HLO.out (by omega)
      refine each_cons ?_ ?_
      · intro a W hW hd
        obtain ⟨U, cu, h⟩ := hd 27 (by decide)
        have h27' : a.tmps[27]?.getD undef = .tuple #[.slice U 0 cu, .int .i64 3] := slot_eq h
        exact grows_value (.tuple #[.slice U 0 cu, .int .i64 3]) hW (by simp [execOp, Act.eval, h27']) ⟨U, cu, rfl⟩
      refine each_cons ?_ ?_
      · intro a W hW hd
        obtain ⟨U, cu, h⟩ := hd 13 (by decide)
        have h13' : a.tmps[13]?.getD undef = .tuple #[.slice U 0 cu, .int .i64 3] := slot_eq h
        refine grows_value (.slice U 0 cu) hW (?_ : _ = _) ⟨U, cu, rfl⟩
        clear hd h
        go_simp
      refine each_cons ?_ ?_
      · intro a W hW hd
        obtain ⟨U, cu, h⟩ := hd 13 (by decide)
        have h13' : a.tmps[13]?.getD undef = .tuple #[.slice U 0 cu, .int .i64 3] := slot_eq h
        refine grows_value _ hW (?_ : _ = _) rfl
        clear hd h
        go_simp
      refine each_cons ?_ ?_
      · intro a W hW hd
        obtain ⟨U, cu, h⟩ := hd 28 (by decide)
        have h28' : a.tmps[28]?.getD undef = .slice U 0 cu := slot_eq h
        exact grows_value (.slice U 0 cu) hW (by simp [execOp, Act.eval, h28']) ⟨U, cu, rfl⟩
      refine each_cons ?_ ?_
      · intro a W hW hd
        have h29 : a.tmps[29]?.getD undef = .int .i64 3 := slot_eq (hd 29 (by decide))
        exact grows_value _ hW (by simp [execOp, Act.eval, h29]) rfl
      exact each_nil
    · refine behind_val rfl ?_
      refine behind_val rfl ?_
      refine behind_val rfl ?_
      refine behind_val rfl ?_
      refine behind_val rfl ?_
      refine behind_val rfl ?_
      refine behind_val rfl ?_
      refine behind_val rfl ?_
      refine behind_val rfl ?_
      refine behind_cons fun v23 => ?_
      refine behind_val rfl ?_
      refine behind_val rfl ?_
      refine behind_cons fun v26 => ?_
      refine behind_cons fun v27 => ?_
      refine behind_cons fun v13 => ?_
      refine behind_cons fun v28 => ?_
      refine behind_val rfl ?_
      refine behind_cons fun v6 => ?_
      refine behind_val rfl ?_
      refine behind_nil fun W1 hCW1 hFW1 => ?_
      simp only [Act.put, List.setIfInBounds_toArray, List.set_cons_succ, List.set_cons_zero, List.drop_succ_cons, List.drop_zero]
      obtain ⟨_, U, cu, rfl⟩ := hFW1
      have HM4 := Lib.hid (HM.out.step hCW1)
      clear hCW1 HM HR3 HWU
      generalize W1 = u4 at *
      go_wp2_with fail
      go_ret2
      have hh := HLO.out
      have hN : wrN v 2 = ipN v + 12 := by unfold wrN; rw [if_pos rfl]
      exact .inl ⟨by rw [hN]; omega, none, 0, rfl, Own.nil_ _ _ _ _, HM4.out.below⟩
  · have HLO : Hid (¬ 1660 < 8 + (4 + n)) := Lib.hid hLO
    clear hLO
    refine wp_region_grow (C := fun W => Below u3.heap.size u3 W) 19 38 [val (.pointer (some ⟨w.heap.size + 1, 0, none⟩)), val (.bool v), val (.pointer (some ⟨w.heap.size + 1, 2, none⟩)), val (.agg (arr16 s)), val (.pointer (some ⟨w.heap.size + 1, 18, none⟩)), val (.agg (arr16 d)), val (.agg (udpc sp 6080 false)), val (.pointer (some ⟨w.heap.size, 35, none⟩)), val (.int .u8 kd), (fun v W => ∃ z, v = .slice (some ⟨z, 0, none⟩) 4 4 ∧ Own W u3.heap.size 5 (some ⟨z, 0, none⟩) 4 4 (four 0 kd 0 0)), val (.pointer (some ⟨w.heap.size, 36, none⟩)), val (.slice B n c), ownF u3 (4 + n) PB, (fun v W => ∃ U cu, v = .tuple #[.slice U (8 + (4 + n)) cu, .int .i64 0] ∧ Own W u3.heap.size 5 U (8 + (4 + n)) cu UB), (fun v W => ∃ U cu, v = .tuple #[.slice U (8 + (4 + n)) cu, .int .i64 0] ∧ Own W u3.heap.size 5 U (8 + (4 + n)) cu UB), ownF u3 (8 + (4 + n)) UB, val (.int .i64 0), ownF u3 (8 + (4 + n)) UB, val (.int .i64 0)] (by kernel_rfl) rfl (by kernel_rfl) rfl ⟨stb_val _, stb_val _, stb_val _, stb_val _, stb_val _, stb_val _, stb_val _, stb_val _, stb_val _, (fun _ _ _ ⟨z, h, ho⟩ hb => ⟨z, h, ho.below hb⟩), stb_val _, stb_val _, stb_own _ _ _, (fun _ _ _ ⟨U, cu, h, ho⟩ hb => ⟨U, cu, h, ho.below hb⟩), (fun _ _ _ ⟨U, cu, h, ho⟩ hb => ⟨U, cu, h, ho.below hb⟩), stb_own _ _ _, stb_val _, stb_own _ _ _, stb_val _, trivial⟩ (Below.refl _ _).drew ?_ ?_
    · refine each_cons ?_ ?_
      · intro a W hW hd
        have h4 : a.tmps[4]?.getD undef = .pointer (some ⟨w.heap.size + 1, 0, none⟩) := slot_eq (hd 4 (by decide))
        refine grows_value _ hW (?_ : _ = _) rfl
        clear hd
        go_simp
      refine each_cons ?_ ?_
      · intro a W hW hd
        have h14 : a.tmps[14]?.getD undef = .pointer (some ⟨w.heap.size + 1, 0, none⟩) := slot_eq (hd 14 (by decide))
        have xx : W.cell? ⟨w.heap.size + 1, 0, none⟩ = some (.bool v) := blk_cell ((hW.block _ (lt_heap (HM.out.get 1 rfl))).trans (HM.out.get 1 rfl)) 0
        refine grows_value _ hW (?_ : _ = _) rfl
        clear hd
        go_simp
      refine each_cons ?_ ?_
      · intro a W hW hd
        have h4 : a.tmps[4]?.getD undef = .pointer (some ⟨w.heap.size + 1, 0, none⟩) := slot_eq (hd 4 (by decide))
        refine grows_value _ hW (?_ : _ = _) rfl
        clear hd
        go_simp
      refine each_cons ?_ ?_
      · intro a W hW hd
        have h16 : a.tmps[16]?.getD undef = .pointer (some ⟨w.heap.size + 1, 2, none⟩) := slot_eq (hd 16 (by decide))
        refine grows_value (.agg (arr16 s)) hW (?_ : _ = _) rfl
        clear hd
        have hc : W.rangeAt (w.heap.size + 1) 2 (arr16 s).toList := blk_range ((hW.block _ (lt_heap (HM.out.get 1 rfl))).trans (HM.out.get 1 rfl)) (fun k hk => out_srcs k hk)
        have e := run_loadVar_mid (P := Try.prog) W (w.heap.size + 1) 2 22 (arr16 s).toList _ hc Try.underlying22 rfl (by kernel_rfl)
        rw [Array.toArray_toList] at e
        simp only [execOp, Act.eval, Array.getD_eq_getD_getElem?, h16, Instr.loadAt, Instr.sureAddr, Sem.run_bind, Sem.run_pure, Result.andThen_ok, e]
      refine each_cons ?_ ?_
      · intro a W hW hd
        have h4 : a.tmps[4]?.getD undef = .pointer (some ⟨w.heap.size + 1, 0, none⟩) := slot_eq (hd 4 (by decide))
        refine grows_value _ hW (?_ : _ = _) rfl
        clear hd
        go_simp
      refine each_cons ?_ ?_
      · intro a W hW hd
        have h18 : a.tmps[18]?.getD undef = .pointer (some ⟨w.heap.size + 1, 18, none⟩) := slot_eq (hd 18 (by decide))
        refine grows_value (.agg (arr16 d)) hW (?_ : _ = _) rfl
        clear hd
        have hc : W.rangeAt (w.heap.size + 1) 18 (arr16 d).toList := blk_range ((hW.block _ (lt_heap (HM.out.get 1 rfl))).trans (HM.out.get 1 rfl)) (fun k hk => out_dsts k hk)
        have e := run_loadVar_mid (P := Try.prog) W (w.heap.size + 1) 18 22 (arr16 d).toList _ hc Try.underlying22 rfl (by kernel_rfl)
        rw [Array.toArray_toList] at e
        simp only [execOp, Act.eval, Array.getD_eq_getD_getElem?, h18, Instr.loadAt, Instr.sureAddr, Sem.run_bind, Sem.run_pure, Result.andThen_ok, e]
      refine each_cons ?_ ?_
      · intro a W hW hd
        have h5 : a.tmps[5]?.getD undef = .pointer (some ⟨w.heap.size + 1 + 1, 0, none⟩) := slot_eq (hd 5 (by decide))
        refine grows_value (.agg (udpc sp 6080 false)) hW (?_ : _ = _) rfl
        clear hd
        simp only [execOp, Act.eval, Array.getD_eq_getD_getElem?, h5, Instr.loadAt, Instr.sureAddr, Sem.run_bind, Sem.run_pure, Result.andThen_ok, run_loadVar_row W (w.heap.size + 1 + 1) 53 53 (udpc sp 6080 false) (0, 0) _ ((hW.block _ (lt_heap (HM.out.get 2 rfl))).trans (HM.out.get 2 rfl)) Try.underlying53 rfl (by kernel_rfl)]
      refine each_cons ?_ ?_
      · intro a W hW hd
        have h1 : a.tmps[1]?.getD undef = .pointer (some ⟨w.heap.size, 0, none⟩) := slot_eq (hd 1 (by decide))
        refine grows_value _ hW (?_ : _ = _) rfl
        clear hd
        go_simp
      refine each_cons ?_ ?_
      · intro a W hW hd
        have h21 : a.tmps[21]?.getD undef = .pointer (some ⟨w.heap.size, 35, none⟩) := slot_eq (hd 21 (by decide))
        have xx : W.cell? ⟨w.heap.size, 35, none⟩ = some (.int .u8 kd) := blk_cell ((hW.block _ (lt_heap (HM.out.get 0 rfl))).trans (HM.out.get 0 rfl)) 35
        refine grows_value _ hW (?_ : _ = _) rfl
        clear hd
        go_simp
      refine each_cons ?_ ?_
      · intro a W hW hd
        have h22 : a.tmps[22]?.getD undef = .int .u8 kd := slot_eq (hd 22 (by decide))
        refine grows_new (.slice (some ⟨W.heap.size, 0, none⟩) 4 4) (w' := W.alloc (.cells #[.int .u8 0, .int .u8 kd, .int .u8 0, .int .u8 0] 5)) (?_ : _ = _) ⟨_, rfl, own_new 4 (four 0 kd 0 0) hW.size (by omega) rfl _ rfl⟩ (below_alloc _ _) (hW.alloc hW.size _)
        clear hd
        go_simp
      refine each_cons ?_ ?_
      · intro a W hW hd
        have h1 : a.tmps[1]?.getD undef = .pointer (some ⟨w.heap.size, 0, none⟩) := slot_eq (hd 1 (by decide))
        refine grows_value _ hW (?_ : _ = _) rfl
        clear hd
        go_simp
      refine each_cons ?_ ?_
      · intro a W hW hd
        have h24 : a.tmps[24]?.getD undef = .pointer (some ⟨w.heap.size, 36, none⟩) := slot_eq (hd 24 (by decide))
        have xx : W.cell? ⟨w.heap.size, 36, none⟩ = some (.slice B n c) := blk_cell ((hW.block _ (lt_heap (HM.out.get 0 rfl))).trans (HM.out.get 0 rfl)) 36
        refine grows_value _ hW (?_ : _ = _) rfl
        clear hd
        go_simp
      refine each_cons ?_ ?_
      · intro a W hW hd
        have h25 : a.tmps[25]?.getD undef = .slice B n c := slot_eq (hd 25 (by decide))
        obtain ⟨z, h23, ho⟩ := hd 23 (by decide)
        have h23' : a.tmps[23]?.getD undef = .slice (some ⟨z, 0, none⟩) 4 4 := slot_eq h23
        obtain ⟨A2, c2, w', hrun, hown, hb⟩ := run_append_full (P := Try.prog) u3.heap.size 26 26 5 i0 Try.underlying26 HI0.out HZ0.out HZ1.out HZ2.out ho (by omega) (c' := c) ((HR3.out.keep hW).more hW.size) (by omega) hW.size
        refine grows_new (.slice A2 (4 + n) c2) (w' := w') ?_ ⟨A2, c2, rfl, hown.same fun k _ => HPB.out k⟩ hb (hW.trans (hb.mono hW.size))
        clear hd
        simp only [execOp, resolve, invoke, builtin, Sem.run_bind, Sem.run_pure, Result.andThen_ok, List.map_toArray, List.map_cons, List.map_nil, Act.eval, Array.getD_eq_getD_getElem?, h23', h25, hrun]
      refine each_cons ?_ ?_
      · intro a W hW hd
        have h15 : a.tmps[15]?.getD undef = .bool v := slot_eq (hd 15 (by decide))
        have h17 : a.tmps[17]?.getD undef = .agg (arr16 s) := slot_eq (hd 17 (by decide))
        have h19 : a.tmps[19]?.getD undef = .agg (arr16 d) := slot_eq (hd 19 (by decide))
        have h20 : a.tmps[20]?.getD undef = .agg (udpc sp 6080 false) := slot_eq (hd 20 (by decide))
        obtain ⟨A5, c5, h26, ho⟩ := hd 26 (by decide)
        have h26' : a.tmps[26]?.getD undef = .slice A5 (4 + n) c5 := slot_eq h26
        refine grows_call (fn := 15) (args := #[.bool v, .agg (arr16 s), .agg (arr16 d), .agg (udpc sp 6080 false), .slice A5 (4 + n) c5]) ?_ ?_
        · clear hd
          go_simp
        · refine (HWU.out A5 c5 W ho.rd).mono ?_
          rintro e w' ⟨x, he, hx, hb⟩
          refine ⟨x, he, ?_, hb, hW.trans (hb.mono hW.size)⟩
          rcases hx with ⟨h1, U, cu, h2⟩ | ⟨h1, U, cu, h2, h3⟩
          · exact absurd HLO.out (by omega)
          · exact ⟨U, cu, h2, h3.le hW.size⟩
      refine each_cons ?_ ?_
      · intro a W hW hd
        obtain ⟨U, cu, h, ho⟩ := hd 27 (by decide)
        have h27' : a.tmps[27]?.getD undef = .tuple #[.slice U (8 + (4 + n)) cu, .int .i64 0] := slot_eq h
        exact grows_value (.tuple #[.slice U (8 + (4 + n)) cu, .int .i64 0]) hW (by simp [execOp, Act.eval, h27']) ⟨U, cu, rfl, ho⟩
      refine each_cons ?_ ?_
      · intro a W hW hd
        obtain ⟨U, cu, h, ho⟩ := hd 13 (by decide)
        have h13' : a.tmps[13]?.getD undef = .tuple #[.slice U (8 + (4 + n)) cu, .int .i64 0] := slot_eq h
        refine grows_value (.slice U (8 + (4 + n)) cu) hW (?_ : _ = _) ⟨U, cu, rfl, ho⟩
        clear hd h
        go_simp
      refine each_cons ?_ ?_
      · intro a W hW hd
        obtain ⟨U, cu, h, ho⟩ := hd 13 (by decide)
        have h13' : a.tmps[13]?.getD undef = .tuple #[.slice U (8 + (4 + n)) cu, .int .i64 0] := slot_eq h
        refine grows_value _ hW (?_ : _ = _) rfl
        clear hd h
        go_simp
      refine each_cons ?_ ?_
      · intro a W hW hd
        obtain ⟨U, cu, h, ho⟩ := hd 28 (by decide)
        have h28' : a.tmps[28]?.getD undef = .slice U (8 + (4 + n)) cu := slot_eq h
        exact grows_value (.slice U (8 + (4 + n)) cu) hW (by simp [execOp, Act.eval, h28']) ⟨U, cu, rfl, ho⟩
      refine each_cons ?_ ?_
      · intro a W hW hd
        have h29 : a.tmps[29]?.getD undef = .int .i64 0 := slot_eq (hd 29 (by decide))
        exact grows_value _ hW (by simp [execOp, Act.eval, h29]) rfl
      exact each_nil
    · refine behind_val rfl ?_
      refine behind_val rfl ?_
      refine behind_val rfl ?_
      refine behind_val rfl ?_
      refine behind_val rfl ?_
      refine behind_val rfl ?_
      refine behind_val rfl ?_
      refine behind_val rfl ?_
      refine behind_val rfl ?_
      refine behind_cons fun v23 => ?_
      refine behind_val rfl ?_
      refine behind_val rfl ?_
      refine behind_cons fun v26 => ?_
      refine behind_cons fun v27 => ?_
      refine behind_cons fun v13 => ?_
      refine behind_cons fun v28 => ?_
      refine behind_val rfl ?_
      refine behind_cons fun v6 => ?_
      refine behind_val rfl ?_
      refine behind_nil fun W1 hCW1 hFW1 => ?_
      simp only [Act.put, List.setIfInBounds_toArray, List.set_cons_succ, List.set_cons_zero, List.drop_succ_cons, List.drop_zero]
      obtain ⟨_, U, cu, rfl, ho⟩ := hFW1
      have HM4 := Lib.hid (HM.out.step hCW1)
      clear hCW1 HM HR3 HWU
      generalize W1 = u4 at *
      have HO := Lib.hid ho
      have H1 : Hid (8 + (4 + n) ≤ 1660) := Lib.hid (by have := HLO.out; omega)
      clear ho
      go_wp2_with (first
        | (refine wpList_load_row rfl 40 (.tmp 1) rfl w.heap.size rfl 40 (wrpc v 2 s d sp kd (.slice B n c)) (0, 0) _ (HM4.out.get 0 rfl) Try.underlying40 rfl (by kernel_rfl) ?_))
      go_at_call 14
      refine (HPK.out U (8 + (4 + n)) cu H1.out u4 rfl HO.out.rd).mono ?_
      have hN : wrN v 2 + n = ipN v + (8 + (4 + n)) := by unfold wrN; rw [if_pos rfl] <;> omega
      have HN := Lib.hid hN
      clear hN
      rintro e u5 (⟨h1, U5, cu5, rfl, ho, hb⟩ | ⟨h1, g, hg, U5, cu5, rfl, ho, hb⟩)
      · have HO5 := Lib.hid ho
        have HB := Lib.hid hb
        have H5 := Lib.hid h1
        clear ho hb h1
        go_wp2
        go_ret2
        exact .inl ⟨by rw [HN.out]; exact H5.out, U5, cu5, rfl, HO5.out.le HM4.out.below.size, HM4.out.below.trans (HB.out.mono HM4.out.below.size)⟩
      · have HO5 := Lib.hid ho
        have HB := Lib.hid hb
        have H5 := Lib.hid h1
        have HG := Lib.hid hg
        clear ho hb h1 hg
        go_wp2
        go_ret2
        refine .inr ⟨by rw [HN.out]; exact H5.out, g, HWD.out H1.out g HG.out, U5, cu5, ?_, ?_, HM4.out.below.trans (HB.out.mono HM4.out.below.size)⟩
        · rw [HN.out]
          rfl
        · rw [HN.out]
          exact HO5.out.le HM4.out.below.size
end Go.Proofs.Ythjgecdnlpdcdaa
