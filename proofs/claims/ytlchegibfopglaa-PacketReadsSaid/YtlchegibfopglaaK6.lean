import Derived.Test.YtlchegibfopglaaK4
import Derived.Test.YtlchegibfopglaaK5
import Derived.Deep.RegionHeld3
/- Sums of bytes, cut, padded, with their checksum behind (pure). -/
namespace Go.Proofs.Ytlchegibfopglaa
open Go.RowKit
theorem fld_cut (f : Nat → Int) (p : Int × Bool) (m : Nat) : ∀ n, fld (fun k => f (m + k)) (fld f p m) n = fld f p (m + n)
  | 0 => rfl
  | n + 1 => by
    show stp (fld (fun k => f (m + k)) (fld f p m) n) (f (m + n)) = _
    rw [fld_cut f p m n]
    rfl
theorem fld_same {f g : Nat → Int} (p : Int × Bool) : ∀ n, (∀ k, k < n → g k = f k) → fld g p n = fld f p n
  | 0, _ => rfl
  | n + 1, h => by
    show stp (fld g p n) (g n) = stp (fld f p n) (f n)
    rw [fld_same p n (fun k hk => h k (by omega)), h n (by omega)]
theorem cat_byt {f g : Nat → Int} (n : Nat) (hf : Byt f) (hg : Byt g) : Byt (cat n f g) := fun k => by
  unfold cat
  split
  · exact hf k
  · exact hg (k - n)
end Go.Proofs.Ytlchegibfopglaa
/- The document's pseudo header. -/
namespace Go.Proofs.Ytlchegibfopglaa
set_option maxRecDepth 100000
open Go.RowKit
theorem fld_cat (f g : Nat → Int) (p : Int × Bool) (n m : Nat) : fld (cat n f g) p (n + m) = fld g (fld f p n) m := by
  rw [← fld_cut (cat n f g) p n m, fld_same p n (fun k hk => show cat n f g k = f k by simp [cat, hk]), fld_same _ m (fun k _ => show cat n f g (n + k) = g k by simp [cat]; intro h; omega)]
theorem cat_zero (f g : Nat → Int) : cat 0 f g = g := by
  funext k
  simp [cat]
def tail6 (pr : Int) (k : Nat) : Int := match k with
  | 3 => pr | _ => 0
def tail4 (pr : Int) (k : Nat) : Int := match k with
  | 1 => pr | _ => 0
theorem tail6_byt {pr : Int} (h1 : 0 ≤ pr) (h2 : pr ≤ 255) : Byt (tail6 pr) := fun k => by unfold tail6; split <;> omega
theorem tail4_byt {pr : Int} (h1 : 0 ≤ pr) (h2 : pr ≤ 255) : Byt (tail4 pr) := fun k => by unfold tail4; split <;> omega
theorem psum6 (f g : Nat → Int) (pr L : Int) (hL : 0 ≤ L) : fld (cat 36 (cat 32 (cat 16 f g) (num4 L)) (tail6 pr)) (0, false) 40 = psum true f g pr (L % 4294967296) := by
  have e1 := fld_cat (cat 32 (cat 16 f g) (num4 L)) (tail6 pr) (0, false) 36 4
  have e2 := fld_cat (cat 16 f g) (num4 L) (0, false) 32 4
  have e3 := fld_cat f g (0, false) 16 16
  rw [show (40 : Nat) = 36 + 4 from rfl, e1, show (36 : Nat) = 32 + 4 from rfl, e2, show (32 : Nat) = 16 + 16 from rfl, e3]
  show _ = fld (head6 pr (L % 4294967296)) (fld g (fld f (0, false) 16) 16) (4 + 4)
  rw [← fld_cut (head6 pr (L % 4294967296)) _ 4 4]
  rw [fld_same (f := num4 L) (g := head6 pr (L % 4294967296)) _ 4 (fun k hk => by
    match k, hk with
    | 0, _ => show L % 4294967296 / 16777216 % 256 = L / 256 / 256 / 256 % 256; omega
    | 1, _ => show L % 4294967296 / 65536 % 256 = L / 256 / 256 % 256; omega
    | 2, _ => show L % 4294967296 / 256 % 256 = L / 256 % 256; omega
    | 3, _ => show L % 4294967296 % 256 = L % 256; omega)]
  rw [fld_same (f := tail6 pr) (g := fun k => head6 pr (L % 4294967296) (4 + k)) _ 4 (fun k hk => by
    match k, hk with
    | 0, _ => rfl
    | 1, _ => rfl
    | 2, _ => rfl
    | 3, _ => rfl)]
theorem psum4 (f g : Nat → Int) (pr L : Int) (hL : 0 ≤ L) : fld (cat 10 (cat 8 (cat 4 f g) (tail4 pr)) (num2 L)) (0, false) 12 = psum false f g pr (L % 4294967296) := by
  have e1 := fld_cat (cat 8 (cat 4 f g) (tail4 pr)) (num2 L) (0, false) 10 2
  have e2 := fld_cat (cat 4 f g) (tail4 pr) (0, false) 8 2
  have e3 := fld_cat f g (0, false) 4 4
  rw [show (12 : Nat) = 10 + 2 from rfl, e1, show (10 : Nat) = 8 + 2 from rfl, e2, show (8 : Nat) = 4 + 4 from rfl, e3]
  show _ = fld (head4 pr (L % 4294967296)) (fld g (fld f (0, false) 4) 4) (2 + 2)
  rw [← fld_cut (head4 pr (L % 4294967296)) _ 2 2]
  rw [fld_same (f := tail4 pr) (g := head4 pr (L % 4294967296)) _ 2 (fun k hk => by
    match k, hk with
    | 0, _ => rfl
    | 1, _ => rfl)]
  rw [fld_same (f := num2 L) (g := fun k => head4 pr (L % 4294967296) (2 + k)) _ 2 (fun k hk => by
    match k, hk with
    | 0, _ => show L % 4294967296 / 256 % 256 = L / 256 % 256; omega
    | 1, _ => show L % 4294967296 % 256 = L % 256; omega)]
theorem rd_tail6 (w : World) (B g : Nat) (hg : g = w.heap.size) (hB : g < B) (pr : Int) (e : TypeId) : Rd (w.alloc (.cells #[.int .u8 0, .int .u8 0, .int .u8 0, .int .u8 pr] e)) B (some ⟨g, 0, none⟩) 4 (tail6 pr) := by
  subst hg
  refine .inr ⟨_, _, rfl, hB, fun k hk => ?_⟩
  match k, hk with
  | 0, _ => go_simp; rfl
  | 1, _ => go_simp; rfl
  | 2, _ => go_simp; rfl
  | 3, _ => go_simp; rfl
theorem rd_tail4 (w : World) (B g : Nat) (hg : g = w.heap.size) (hB : g < B) (pr : Int) (e : TypeId) : Rd (w.alloc (.cells #[.int .u8 0, .int .u8 pr] e)) B (some ⟨g, 0, none⟩) 2 (tail4 pr) := by
  subst hg
  refine .inr ⟨_, _, rfl, hB, fun k hk => ?_⟩
  match k, hk with
  | 0, _ => go_simp; rfl
  | 1, _ => go_simp; rfl
set_option maxHeartbeats 400000 in
theorem rpseudo6 (f g : Nat → Int) (hf : Byt f) (hg : Byt g) (pr len : Int) (h1 : 0 ≤ pr) (h2 : pr ≤ 255) (h3 : 0 ≤ len) (h4 : len ≤ 9223372036854775807) (w : World) :
    Calls Try.prog 52 #[.bool true, .agg (arr16 f), .agg (arr16 g), .int .u8 pr, .int .i64 len] w fun e w' => e = .returned (.agg #[.int .u16 (psum true f g pr (len % 4294967296)).1, .bool (psum true f g pr (len % 4294967296)).2]) ∧ Below w.heap.size w w' := by
  obtain ⟨i0, hi0, hz0, hz1, hz2⟩ := info_parts Try.info5
  have HI0 := Lib.hid hi0
  have HZ0 := Lib.hid hz0
  have HZ1 := Lib.hid hz1
  have HZ2 := Lib.hid hz2
  clear hi0 hz0 hz1 hz2
  have HF := Lib.hid hf
  have HG := Lib.hid hg
  clear hf hg
  obtain ⟨r, hr⟩ : ∃ r, r = psum true f g pr (len % 4294967296) := ⟨_, rfl⟩
  rw [← hr]
  have HRr := Lib.hid hr
  clear hr
  go_enter Try.func52, Try.ntmps52
  go_wp2
  have hp := PsW.start w f g
  generalize ((w.alloc (Obj.cells (arr16 f) 23)).alloc (Obj.cells (arr16 g) 23)).alloc (Obj.cells #[.int .u16 0, .bool false] 101) = w3 at *
  obtain ⟨b0, b1, b2, hb3⟩ := hp
  have HRf := Lib.hid (rd_arr b0 16 (by omega))
  have HRg := Lib.hid (rd_arr b1 16 (by omega))
  have hl2 := lt_of_heap b2
  have k0 := cell_in b2 0
  have k1 := cell_in b2 1
  have m0 := free_in b2 0
  have m1 := free_in b2 1
  have q0 := cell_in b0 0
  have q1 := cell_in b1 0
  simp at k0 k1
  clear b0 b1 b2
  go_region_held3 (fun _ => True) (trivial) (first
    | (refine step_append_rd rfl (.tmp 15) (.tmp 16) _ rfl w3.heap.size 5 i0 Try.underlying22 HI0.out HZ0.out HZ1.out HZ2.out (n := 0) (f := f) rfl (Own.nil_ _ _ _ _) rfl HRf.out (by omega) (Nat.le_refl _) ?_
       intro A1 c1 w4 hown1 hg1
       have hb4 : Below w3.heap.size w3 w4 := (Below.refl w3.heap.size w3).drew.grown hg1 (Nat.le_refl _) (by intro k hk; simp [Value.ownBlock] at hk)
       have HO1 := Lib.hid hown1
       clear hown1 hg1)
    | (refine step_append_rd rfl (.tmp 17) (.tmp 18) _ rfl w3.heap.size 5 i0 Try.underlying22 HI0.out HZ0.out HZ1.out HZ2.out (n := 16) rfl HO1.out rfl (HRg.out.keep hb4) (by omega) hb4.size ?_
       intro A2 c2 w5 hown2 hg2
       have hb5 : Below w3.heap.size w3 w5 := hb4.grown hg2 hb4.size HO1.out.at_
       have HO2 := Lib.hid hown2
       clear hown2 hg2))
  have HP2 : Hid (Own w5 w3.heap.size 5 A2 32 c2 (cat 16 f g)) := by
    have e := HO2.out
    rw [cat_zero] at e
    exact e
  clear HO1 HO2
  go_wp2_with fail
  go_at_call 67
  refine (num4_any len w5 (by omega) (by omega)).mono ?_
  rintro e w6 ⟨rfl, hb6, hr6⟩
  have HR6 := Lib.hid hr6
  clear hr6
  have hb7 : Below w3.heap.size w3 w6 := hb5.trans (hb6.mono hb5.size)
  have HP3 : Hid (Own w6 w3.heap.size 5 A2 32 c2 (cat 16 f g)) := HP2.out.below hb6
  clear hb6 HP2
  go_wp2_with (first
    | (at_builtin
       refine wpList_append_rd rfl (.tmp 20) (.tmp 22) _ rfl w3.heap.size 5 i0 Try.underlying22 HI0.out HZ0.out HZ1.out HZ2.out (n := 32) rfl HP3.out rfl HR6.out (by omega) hb7.size ?_
       intro A3 c3 w8 hown3 hg3 _
       have hb8 : Below w3.heap.size w3 w8 := hb7.grown hg3 hb7.size HP3.out.at_
       have HO3 := Lib.hid hown3
       clear hown3 hg3)
    | (at_builtin
       refine wpList_append_rd rfl (.tmp 23) (.tmp 25) _ rfl w3.heap.size 5 i0 Try.underlying22 HI0.out HZ0.out HZ1.out HZ2.out (n := 36) rfl (HO3.out.alloc _) rfl (rd_tail6 w8 (w8.heap.size + 1) _ rfl (by omega) pr 5) (by omega) (Nat.le_trans hb8.size (alloc_le _ _)) ?_
       intro A4 c4 w9 hown4 hg4 _
       have hb9 : Below w3.heap.size w3 w9 := (hb8.alloc hb8.size _).grown hg4 (Nat.le_trans hb8.size (alloc_le _ _)) HO3.out.at_
       have HO4 := Lib.hid hown4
       clear hown4 hg4))
  have HA := Lib.hid (radd_any 0 false A4 40 c4 _ (cat_byt 36 (cat_byt 32 (cat_byt 16 HF.out HG.out) (num4_byt len)) (tail6_byt h1 h2)) (by omega) w9 (by omega) (by omega) HO4.out.rd)
  rw [psum6 f g pr len (by omega)] at HA
  rw [← HRr.out] at HA
  go_at_call 51
  refine HA.out.mono ?_
  rintro e w10 ⟨rfl, hb10⟩
  have hb11 : Below w3.heap.size w3 w10 := hb9.trans (hb10.mono hb9.size)
  have j0 := (hb11.cell (p := ⟨w.heap.size + 1 + 1, 0, none⟩) hl2).trans k0
  have j1 := (hb11.cell (p := ⟨w.heap.size + 1 + 1, 1, none⟩) hl2).trans k1
  have i0 := (hb11.frozen (p := ⟨w.heap.size + 1 + 1, 0, none⟩) hl2).trans m0
  have i1 := (hb11.frozen (p := ⟨w.heap.size + 1 + 1, 1, none⟩) hl2).trans m1
  have hb12 := hb3.trans (hb11.mono hb3.size)
  go_wp2_with fail
  refine bodyPost_ret (v := .agg #[.int .u16 r.1, .bool r.2]) (by simp [results, Try.results52, go_sem, j0, j1]) rfl ⟨rfl, ?_⟩
  exact (hb12.setCell (by simp; omega) _).setCell (by simp; omega) _
set_option maxHeartbeats 400000 in
theorem rpseudo4 (f g : Nat → Int) (hf : Byt f) (hg : Byt g) (pr len : Int) (h1 : 0 ≤ pr) (h2 : pr ≤ 255) (h3 : 0 ≤ len) (h4 : len ≤ 9223372036854775807) (w : World) :
    Calls Try.prog 52 #[.bool false, .agg (arr16 f), .agg (arr16 g), .int .u8 pr, .int .i64 len] w fun e w' => e = .returned (.agg #[.int .u16 (psum false f g pr (len % 4294967296)).1, .bool (psum false f g pr (len % 4294967296)).2]) ∧ Below w.heap.size w w' := by
  obtain ⟨i0, hi0, hz0, hz1, hz2⟩ := info_parts Try.info5
  have HI0 := Lib.hid hi0
  have HZ0 := Lib.hid hz0
  have HZ1 := Lib.hid hz1
  have HZ2 := Lib.hid hz2
  clear hi0 hz0 hz1 hz2
  have HF := Lib.hid hf
  have HG := Lib.hid hg
  clear hf hg
  obtain ⟨r, hr⟩ : ∃ r, r = psum false f g pr (len % 4294967296) := ⟨_, rfl⟩
  rw [← hr]
  have HRr := Lib.hid hr
  clear hr
  go_enter Try.func52, Try.ntmps52
  go_wp2
  have hp := PsW.start w f g
  generalize ((w.alloc (Obj.cells (arr16 f) 23)).alloc (Obj.cells (arr16 g) 23)).alloc (Obj.cells #[.int .u16 0, .bool false] 101) = w3 at *
  obtain ⟨b0, b1, b2, hb3⟩ := hp
  have HRf := Lib.hid (rd_arr b0 4 (by omega))
  have HRg := Lib.hid (rd_arr b1 4 (by omega))
  have hl2 := lt_of_heap b2
  have k0 := cell_in b2 0
  have k1 := cell_in b2 1
  have m0 := free_in b2 0
  have m1 := free_in b2 1
  have q0 := cell_in b0 0
  have q1 := cell_in b1 0
  simp at k0 k1
  clear b0 b1 b2
  go_region_held3 (fun _ => True) (trivial) (first
    | (refine step_append_rd rfl (.tmp 27) (.tmp 28) _ rfl w3.heap.size 5 i0 Try.underlying22 HI0.out HZ0.out HZ1.out HZ2.out (n := 0) (f := f) rfl (Own.nil_ _ _ _ _) rfl HRf.out (by omega) (Nat.le_refl _) ?_
       intro A1 c1 w4 hown1 hg1
       have hb4 : Below w3.heap.size w3 w4 := (Below.refl w3.heap.size w3).drew.grown hg1 (Nat.le_refl _) (by intro k hk; simp [Value.ownBlock] at hk)
       have HO1 := Lib.hid hown1
       clear hown1 hg1)
    | (refine step_append_rd rfl (.tmp 29) (.tmp 30) _ rfl w3.heap.size 5 i0 Try.underlying22 HI0.out HZ0.out HZ1.out HZ2.out (n := 4) rfl HO1.out rfl (HRg.out.keep hb4) (by omega) hb4.size ?_
       intro A2 c2 w5 hown2 hg2
       have hb5 : Below w3.heap.size w3 w5 := hb4.grown hg2 hb4.size HO1.out.at_
       have HO2 := Lib.hid hown2
       clear hown2 hg2))
  have HP2 : Hid (Own w5 w3.heap.size 5 A2 8 c2 (cat 4 f g)) := by
    have e := HO2.out
    rw [cat_zero] at e
    exact e
  clear HO1 HO2
  go_wp2_with (first
    | (at_builtin
       refine wpList_append_rd rfl (.tmp 32) (.tmp 34) _ rfl w3.heap.size 5 i0 Try.underlying22 HI0.out HZ0.out HZ1.out HZ2.out (n := 8) rfl (HP2.out.alloc _) rfl (rd_tail4 w5 (w5.heap.size + 1) _ rfl (by omega) pr 5) (by omega) (Nat.le_trans hb5.size (alloc_le _ _)) ?_
       intro A3 c3 w8 hown3 hg3 _
       have hb8 : Below w3.heap.size w3 w8 := (hb5.alloc hb5.size _).grown hg3 (Nat.le_trans hb5.size (alloc_le _ _)) HP2.out.at_
       have HO3 := Lib.hid hown3
       clear hown3 hg3))
  go_at_call 67
  refine (num2_any len w8 (by omega) (by omega)).mono ?_
  rintro e w6 ⟨rfl, hb6, hr6⟩
  have HR6 := Lib.hid hr6
  clear hr6
  have hb7 : Below w3.heap.size w3 w6 := hb8.trans (hb6.mono hb8.size)
  have HP3 : Hid (Own w6 w3.heap.size 5 A3 10 c3 (cat 8 (cat 4 f g) (tail4 pr))) := HO3.out.below hb6
  clear hb6 HP2 HO3
  go_wp2_with (first
    | (at_builtin
       refine wpList_append_rd rfl (.tmp 35) (.tmp 37) _ rfl w3.heap.size 5 i0 Try.underlying22 HI0.out HZ0.out HZ1.out HZ2.out (n := 10) rfl HP3.out rfl HR6.out (by omega) hb7.size ?_
       intro A4 c4 w9 hown4 hg4 _
       have hb9 : Below w3.heap.size w3 w9 := hb7.grown hg4 hb7.size HP3.out.at_
       have HO4 := Lib.hid hown4
       clear hown4 hg4))
  have HA := Lib.hid (radd_any 0 false A4 12 c4 _ (cat_byt 10 (cat_byt 8 (cat_byt 4 HF.out HG.out) (tail4_byt h1 h2)) (num2_byt len)) (by omega) w9 (by omega) (by omega) HO4.out.rd)
  rw [psum4 f g pr len (by omega)] at HA
  rw [← HRr.out] at HA
  go_at_call 51
  refine HA.out.mono ?_
  rintro e w10 ⟨rfl, hb10⟩
  have hb11 : Below w3.heap.size w3 w10 := hb9.trans (hb10.mono hb9.size)
  have j0 := (hb11.cell (p := ⟨w.heap.size + 1 + 1, 0, none⟩) hl2).trans k0
  have j1 := (hb11.cell (p := ⟨w.heap.size + 1 + 1, 1, none⟩) hl2).trans k1
  have i0 := (hb11.frozen (p := ⟨w.heap.size + 1 + 1, 0, none⟩) hl2).trans m0
  have i1 := (hb11.frozen (p := ⟨w.heap.size + 1 + 1, 1, none⟩) hl2).trans m1
  have hb12 := hb3.trans (hb11.mono hb3.size)
  go_wp2_with fail
  refine bodyPost_ret (v := .agg #[.int .u16 r.1, .bool r.2]) (by simp [results, Try.results52, go_sem, j0, j1]) rfl ⟨rfl, ?_⟩
  exact (hb12.setCell (by simp; omega) _).setCell (by simp; omega) _
end Go.Proofs.Ytlchegibfopglaa
/- The checksum in closed form: a sum of words, modulo 65535. -/
namespace Go.Proofs.Ytlchegibfopglaa
open Go.RowKit
--CUT
/-- What a byte at place k weighs. -/
def wgt (k : Nat) (x : Int) : Int := if k % 2 = 0 then x * 256 else x
/-- The sum of n bytes as words. -/
def tot (f : Nat → Int) : Nat → Int
  | 0 => 0
  | n + 1 => tot f n + wgt n (f n)
/-- .. in ones' complement. -/
def nrm (s : Int) : Int := if s = 0 then 0 else (s - 1) % 65535 + 1
theorem nrm_bd (s : Int) (_ : 0 ≤ s) : 0 ≤ nrm s ∧ nrm s ≤ 65535 ∧ (0 < s → 1 ≤ nrm s) := by
  unfold nrm
  split <;> omega
theorem pl_nrm (s b : Int) (hs : 0 ≤ s) (hb : 0 ≤ b) (hb' : b ≤ 65535) : pl (nrm s) b = nrm (s + b) := by
  unfold nrm pl
  by_cases h0 : s = 0
  · subst h0
    rw [if_pos rfl]
    by_cases h1 : b = 0
    · subst h1
      decide
    · rw [if_neg (by omega), if_neg (by omega)]
      omega
  · rw [if_neg h0, if_neg (show ¬ s + b = 0 by omega)]
    split <;> omega
theorem wgt_bd {k : Nat} {x : Int} (hx : 0 ≤ x ∧ x ≤ 255) : 0 ≤ wgt k x ∧ wgt k x ≤ 65535 := by
  unfold wgt
  split <;> omega
theorem tot_nonneg {f : Nat → Int} (hf : Byt f) : ∀ n, 0 ≤ tot f n
  | 0 => Int.le_refl 0
  | n + 1 => by
    have a := tot_nonneg hf n
    have b := (wgt_bd (k := n) (hf n)).1
    show 0 ≤ tot f n + wgt n (f n)
    omega
theorem fld_tot {f : Nat → Int} (hf : Byt f) : ∀ n, (fld f (0, false) n).1 = nrm (tot f n)
  | 0 => rfl
  | n + 1 => by
    have ih := fld_tot hf n
    have ho := fld_odd f 0 n
    have hw := wgt_bd (k := n) (hf n)
    have e : (fld f (0, false) (n + 1)).1 = pl (fld f (0, false) n).1 (wgt n (f n)) := by
      show (stp (fld f (0, false) n) (f n)).1 = _
      unfold stp wgt
      rw [ho]
      rcases Nat.mod_two_eq_zero_or_one n with h | h <;> simp [h]
    rw [e, ih]
    exact pl_nrm _ _ (tot_nonneg hf n) hw.1 hw.2
theorem ofv_tot {f : Nat → Int} (hf : Byt f) (n : Nat) : ofv f n = 65535 - nrm (tot f n) := by
  unfold ofv
  rw [fld_tot hf]
/-- When the checksum is 0. -/
theorem ofv_zero {f : Nat → Int} (hf : Byt f) (n : Nat) : ofv f n = 0 ↔ 0 < tot f n ∧ tot f n % 65535 = 0 := by
  rw [ofv_tot hf]
  have h := tot_nonneg hf n
  unfold nrm
  split <;> omega
theorem tot_same {f g : Nat → Int} : ∀ n, (∀ k, k < n → g k = f k) → tot g n = tot f n
  | 0, _ => rfl
  | n + 1, h => by
    show tot g n + wgt n (g n) = tot f n + wgt n (f n)
    rw [tot_same n fun k hk => h k (by omega), h n (by omega)]
/-- One byte another one. -/
theorem tot_upd (f : Nat → Int) (p : Nat) (v : Int) : ∀ n, p < n → tot (upd f p v) n = tot f n + (wgt p v - wgt p (f p))
  | 0, h => absurd h (by omega)
  | n + 1, h => by
    show tot (upd f p v) n + wgt n (upd f p v n) = tot f n + wgt n (f n) + (wgt p v - wgt p (f p))
    by_cases e : n = p
    · subst e
      have e1 : tot (upd f n v) n = tot f n := tot_same n fun k hk => by unfold upd; rw [if_neg (by omega)]
      have e2 : upd f n v n = v := by unfold upd; rw [if_pos rfl]
      rw [e1, e2]
      omega
    · have e2 : upd f p v n = f n := by unfold upd; rw [if_neg e]
      rw [tot_upd f p v n (by omega), e2]
      omega
/-- The first byte's words are above 0, if it is. -/
theorem tot_pos {f : Nat → Int} (hf : Byt f) (h : 0 < f 0) : ∀ n, 0 < n → 0 < tot f n
  | 0, hn => absurd hn (by omega)
  | 1, _ => by
    show 0 < 0 + wgt 0 (f 0)
    unfold wgt
    simp
    omega
  | n + 2, _ => by
    have a := tot_pos hf h (n + 1) (by omega)
    have b := (wgt_bd (k := n + 1) (hf (n + 1))).1
    show 0 < tot f (n + 1) + wgt (n + 1) (f (n + 1))
    omega
/-- A header whose sum is laid at an even place p has the checksum 0. -/
theorem ofv_laid {f : Nat → Int} (hf : Byt f) (p n : Nat) (hp : p % 2 = 0) (hn : p + 1 < n) (h0 : f p = 0) (h1 : f (p + 1) = 0) (hpos : 0 < tot f n) :
    ofv (upd (upd f p (ofv f n / 256)) (p + 1) (ofv f n % 256)) n = 0 := by
  have hb := ofv_bd hf n
  have hc := ofv_tot hf n
  have hf1 : Byt (upd f p (ofv f n / 256)) := upd_byt hf p (by omega)
  have hf2 : Byt (upd (upd f p (ofv f n / 256)) (p + 1) (ofv f n % 256)) := upd_byt hf1 (p + 1) (by omega)
  rw [ofv_zero hf2, tot_upd _ _ _ n (by omega), tot_upd _ _ _ n (by omega)]
  have e : upd f p (ofv f n / 256) (p + 1) = 0 := by unfold upd; rw [if_neg (by omega)]; exact h1
  rw [e, h0]
  have w1 : ∀ x, wgt p x = x * 256 := fun x => by unfold wgt; rw [if_pos hp]
  have w2 : ∀ x, wgt (p + 1) x = x := fun x => by unfold wgt; rw [if_neg (by omega)]
  rw [w1, w1, w2, w2]
  unfold nrm at hc
  rw [if_neg (by omega)] at hc
  omega
/-- Of a header whose checksum is 0 the sum that it bears is the one that is made, or both are no sum. -/
theorem ofv_read {f : Nat → Int} (hf : Byt f) (p n : Nat) (hp : p % 2 = 0) (hn : p + 1 < n) (hpos : 0 < tot (upd (upd f p 0) (p + 1) 0) n) (h : ofv f n = 0) :
    ofv (upd (upd f p 0) (p + 1) 0) n = (if f p = 255 ∧ f (p + 1) = 255 then 0 else f p * 256 + f (p + 1)) := by
  have hf1 : Byt (upd f p 0) := upd_byt hf p (by omega)
  have hf2 : Byt (upd (upd f p 0) (p + 1) 0) := upd_byt hf1 (p + 1) (by omega)
  rw [ofv_tot hf2]
  have hz := (ofv_zero hf n).1 h
  have e : upd f p 0 (p + 1) = f (p + 1) := by unfold upd; rw [if_neg (by omega)]
  have et : tot (upd (upd f p 0) (p + 1) 0) n = tot f n - f p * 256 - f (p + 1) := by
    rw [tot_upd _ _ _ n (by omega), tot_upd _ _ _ n (by omega), e]
    have w1 : ∀ x, wgt p x = x * 256 := fun x => by unfold wgt; rw [if_pos hp]
    have w2 : ∀ x, wgt (p + 1) x = x := fun x => by unfold wgt; rw [if_neg (by omega)]
    rw [w1, w1, w2, w2]
    omega
  rw [et] at hpos ⊢
  have b0 := hf p
  have b1 := hf (p + 1)
  unfold nrm
  rw [if_neg (by omega)]
  split <;> omega
/-- One bit turned: the checksum is not 0 any more. -/
theorem ofv_bit {f : Nat → Int} (hf : Byt f) (p n : Nat) (hn : p < n) (v : Int) (hv : 0 ≤ v ∧ v ≤ 255) (j : Nat) (hj : j < 8) (hd : v - f p = 2 ^ j ∨ f p - v = 2 ^ j) (h : ofv f n = 0) : ofv (upd f p v) n ≠ 0 := by
  have hf1 : Byt (upd f p v) := upd_byt hf p hv
  intro hc
  have a := (ofv_zero hf n).1 h
  have b := (ofv_zero hf1 n).1 hc
  rw [tot_upd _ _ _ n hn] at b
  have e : wgt p v - wgt p (f p) = wgt p (v - f p) := by unfold wgt; split <;> omega
  rw [e] at b
  obtain rfl | rfl | rfl | rfl | rfl | rfl | rfl | rfl : j = 0 ∨ j = 1 ∨ j = 2 ∨ j = 3 ∨ j = 4 ∨ j = 5 ∨ j = 6 ∨ j = 7 := by omega
  all_goals
    simp only [show (2 : Int) ^ 0 = 1 from rfl, show (2 : Int) ^ 1 = 2 from rfl, show (2 : Int) ^ 2 = 4 from rfl, show (2 : Int) ^ 3 = 8 from rfl, show (2 : Int) ^ 4 = 16 from rfl, show (2 : Int) ^ 5 = 32 from rfl, show (2 : Int) ^ 6 = 64 from rfl, show (2 : Int) ^ 7 = 128 from rfl] at hd
    unfold wgt at b
    split at b <;> omega
end Go.Proofs.Ytlchegibfopglaa
