/- SumCuts. -/
import Derived.Test.YtcdkefgmlhkdcaaOf
namespace Go.Proofs.Ytcdkefgmlhkdcaa
open Go.RowKit

theorem cut_at (cut : Int) (n : Nat) (hn : n ≤ 2000) : ∃ m : Nat, m ≤ n ∧ wrap64 ((IntKind.u64.wrap cut).tmod ((n : Int) + 1)) = m := by
  have h0 : 0 ≤ IntKind.u64.wrap cut := by simp only [IntKind.wrap_u64]; omega
  rw [Int.tmod_eq_emod_of_nonneg h0]
  have h1 := Int.emod_nonneg (IntKind.u64.wrap cut) (b := (n : Int) + 1) (by omega)
  have h2 := Int.emod_lt_of_pos (IntKind.u64.wrap cut) (b := (n : Int) + 1) (by omega)
  generalize IntKind.u64.wrap cut % ((n : Int) + 1) = r at *
  refine ⟨r.toNat, by omega, ?_⟩
  unfold wrap64
  omega
theorem fld_cut (f : Nat → Int) (p : Int × Bool) (m : Nat) : ∀ n, fld (fun k => f (m + k)) (fld f p m) n = fld f p (m + n)
  | 0 => rfl
  | n + 1 => by
    show stp (fld (fun k => f (m + k)) (fld f p m) n) (f (m + n)) = _
    rw [fld_cut f p m n]
    rfl

theorem fld_same {f g : Nat → Int} (p : Int × Bool) : ∀ n, (∀ k, k < n → g k = f k) → fld g p n = fld f p n
  | 0, _ => rfl
  | n + 1, h => by
    show stp (fld g p n) (g n) = stp (fld f p n) (f n)
    rw [fld_same p n (fun k hk => h k (by omega)), h n (by omega)]
theorem cat_byt {f g : Nat → Int} (n : Nat) (hf : Byt f) (hg : Byt g) : Byt (cat n f g) := fun k => by
  unfold cat
  split
  · exact hf k
  · exact hg (k - n)
theorem ofv_same {f g : Nat → Int} (n : Nat) (h : ∀ k, k < n → g k = f k) : ofv g n = ofv f n := by
  unfold ofv
  rw [fld_same _ n h]
/-- A byte 0 behind an odd number of bytes. -/
theorem ofv_pad {f : Nat → Int} (hf : Byt f) (n : Nat) (hn : n % 2 = 1) : ofv (cat n f fun _ => 0) (n + 1) = ofv f n := by
  have hb := fld_bd (p := (0, false)) hf ⟨by omega, by omega⟩ n
  have e : fld (cat n f fun _ => 0) (0, false) n = fld f (0, false) n := fld_same _ n fun k hk => by simp [cat, hk]
  unfold ofv
  show 65535 - (stp (fld (cat n f fun _ => 0) (0, false) n) (cat n f (fun _ => 0) n)).1 = _
  rw [e]
  have c : cat n f (fun _ => 0) n = 0 := by simp [cat]
  rw [c]
  unfold stp pl
  cases (fld f (0, false) n).2 <;> simp <;> intro h <;> omega
/-- A checksum behind its bytes. -/
theorem ofv_own {f g : Nat → Int} (hf : Byt f) (hg : Byt g) (n : Nat) (hn : n % 2 = 0) (h : g 0 * 256 + g 1 = ofv f n) : ofv (cat n f g) (n + 2) = 0 := by
  have hb := fld_bd (p := (0, false)) hf ⟨by omega, by omega⟩ n
  have e : fld (cat n f g) (0, false) n = fld f (0, false) n := fld_same _ n fun k hk => by simp [cat, hk]
  have w := fld_word (cat_byt n hf hg) (s := 0) ⟨by omega, by omega⟩ (n / 2)
  rw [show 2 * (n / 2) = n by omega, e] at w
  have c0 : cat n f g n = g 0 := by simp [cat]
  have c1 : cat n f g (n + 1) = g 1 := by simp [cat]; intro h; omega
  rw [c0, c1, h] at w
  unfold ofv at w ⊢
  rw [w]
  unfold pl
  split <;> omega

set_option maxHeartbeats 400000 in
theorem cuts_even (A : Option Addr) (n c : Nat) (cut : Int) (f : Nat → Int) (hf : Byt f) (hn : n ≤ 2000) (hpar : n % 2 = 0) (hcap : n ≤ c) (hc' : c ≤ 9223372036854775807) (w : World) (ha : -9223372036854775808 ≤ cut) (ha' : cut ≤ 9223372036854775807) (hr : Rd w w.heap.size A n f) :
    Calls Try.prog 5 #[.slice A n c, .int .i64 cut] w fun e w' => e = .returned (.bool true) ∧ Below w.heap.size w w' := by
  obtain ⟨i0, hi0, hz0, hz1, hz2⟩ := info_parts Try.info5
  have HI0 := Lib.hid hi0
  have HZ0 := Lib.hid hz0
  have HZ1 := Lib.hid hz1
  have HZ2 := Lib.hid hz2
  clear hi0 hz0 hz1 hz2
  have hp : ((n : Int) % 2 == 1) = false := by simp; omega
  have HP := Lib.hid hpar
  clear hpar
  have HF := Lib.hid hf
  clear hf
  have HR := Lib.hid hr
  clear hr
  go_enter Try.func5, Try.ntmps5
  go_wp2_with fail
  obtain ⟨m, hm, he⟩ := cut_at cut n hn
  rw [he]
  clear he
  refine wp_region_stay (by kernel_rfl) (by kernel_rfl) ?_
  obtain ⟨hq, hq'⟩ := fld_bd (p := (0, false)) HF.out ⟨by omega, by omega⟩ m
  have HE := Lib.hid (fld_cut f (0, false) m (n - m))
  rw [Nat.add_sub_cancel' hm] at HE
  have H1 := Lib.hid fun W : Stay w => Calls.stay W (add_any 0 false A m c f HF.out (by omega) (by omega) W.w (by omega) (by omega) (Stay.rd (HR.out.less hm) W))
  have H3 := Lib.hid fun W : Stay w => Calls.stay W (add_any 0 false A n c f HF.out (by omega) (by omega) W.w (by omega) (by omega) (Stay.rd HR.out W))
  have H2 : Hid (∀ W : Stay w, _) := fun W => Calls.stay W (add_any (fld f (0, false) m).1 (fld f (0, false) m).2 _ (n - m) (c - m) (fun k => f (m + k)) (fun k => HF.out (m + k)) (by omega) (by omega) W.w hq hq' (Stay.rd (HR.out.cut hm hcap) W))
  have HO : Hid (ofv f n = 65535 - (fld f (0, false) n).1) := rfl
  rw [HE.out] at H2
  clear HE
  generalize fld f (0, false) m = q at *
  generalize fld f (0, false) n = r at *
  repeat (go_big_quiet_step (first
    | (go_at_call 10; with_reducible exact H1.out _)
    | (go_at_call 10; with_reducible exact H2.out _)
    | (go_at_call 10; with_reducible exact H3.out _)))
  refine wpQuiet_nil ?_
  intro w' hw'
  obtain ⟨W, rfl⟩ := hw'
  have hb2 := W.below
  clear H1 H2 H3
  clear HO
  generalize (if c = m then A else Option.map (fun x => x.add m) A) = A2
  go_wp2_with (first
    | (at_builtin
       refine wpList_append_rd rfl (.tmp 33) (.tmp 34) _ rfl w.heap.size 5 i0 Try.underlying25 HI0.out HZ0.out HZ1.out HZ2.out (n := 0) (f := f) rfl (Own.fresh _ _ _ rfl hb2.size 5 f) rfl (HR.out.keep (hb2.alloc hb2.size _)) (by omega) (Nat.le_trans hb2.size (alloc_le _ _)) ?_
       intro A1 c1 w1 hown1 hg1 _
       have hb3 : Below w.heap.size w w1 := (hb2.alloc hb2.size _).grown hg1 (Nat.le_trans hb2.size (alloc_le _ _)) (by intro k hk; simp [Value.ownBlock] at hk; have := hb2.size; omega)
       have HO1 : Hid (Own w1 w.heap.size 5 A1 n c1 f) := by
         have e := hown1.same (g := f) (by intro k _; simp [cat])
         rw [Nat.zero_add] at e
         exact e
       clear hown1 hg1))
  have HRb : Hid (Rd w1 w1.heap.size A n f) := (HR.out.keep hb3).more hb3.size
  have HS := Lib.hid (ofv_bd HF.out n)
  obtain ⟨hv, hv'⟩ := HS.out
  have HFE : Hid (Byt (f)) := HF.out
  have HEC : Hid (n ≤ c1) := HO1.out.cap
  have HOF := Lib.hid (of_any A n c f HF.out (by omega) hcap w1 HRb.out)
  go_wp2_with fail
  go_at_call 8
  refine HOF.out.mono ?_
  rintro e w5 ⟨rfl, hb5⟩
  have HOwn5 : Hid (Own w5 w.heap.size 5 A1 (n) c1 (f)) := HO1.out.below hb5
  have hb6 : Below w.heap.size w w5 := hb3.trans (hb5.mono hb3.size)
  have HOF2 := Lib.hid (of_any A1 (n) c1 (f) HFE.out (by omega) HEC.out w5 HOwn5.out.rd)
  have HFX : Hid (Byt fun k => if k = 0 then ofv f n / 256 else IntKind.u8.wrap (ofv f n)) := fun k => by
    dsimp only
    simp only [IntKind.wrap_u8]
    split <;> omega
  have HX : Hid (ofv (cat (n) (f) fun k => if k = 0 then ofv f n / 256 else IntKind.u8.wrap (ofv f n)) (n + 2) = 0) :=
    ofv_own HFE.out HFX.out (n) (by have := HP.out; omega) (by simp only [IntKind.wrap_u8]; simp; omega)
  generalize ofv f n = vv at *
  go_wp2_with fail
  go_at_call 8
  refine HOF2.out.mono ?_
  rintro e w7 ⟨rfl, hb7⟩
  have hb8 : Below w.heap.size w w7 := hb6.trans (hb7.mono hb6.size)
  have HOwn7 : Hid (Own w7 w.heap.size 5 A1 (n) c1 (f)) := HOwn5.out.below hb7
  go_wp2_with (first
    | (at_builtin
       refine wpList_append_rd rfl (.tmp 50) (.tmp 56) _ rfl w.heap.size 5 i0 Try.underlying25 HI0.out HZ0.out HZ1.out HZ2.out (n := n) (f := f) rfl (HOwn7.out.alloc _) rfl (rd_new2 w7 (w7.heap.size + 1) _ rfl (by omega) (vv / 256) (IntKind.u8.wrap vv) 5) (by omega) (Nat.le_trans hb8.size (alloc_le _ _)) ?_
       intro A9 c9 w9 hown9 hg9 _))
  have hb9 : Below w.heap.size w w9 := (hb8.alloc hb8.size _).grown hg9 (Nat.le_trans hb8.size (alloc_le _ _)) (HOwn7.out.alloc (.cells #[.int .u8 (vv / 256), .int .u8 (IntKind.u8.wrap vv)] 5)).at_
  have HOwn9 := Lib.hid hown9
  clear hown9 hg9
  have HOF3 := Lib.hid (of_any A9 (n + 2) c9 _ (cat_byt (n) HFE.out HFX.out) (by omega) HOwn9.out.cap w9 HOwn9.out.rd)
  rw [HX.out] at HOF3
  go_at_call 8
  refine HOF3.out.mono ?_
  rintro e w10 ⟨rfl, hb10⟩
  have hb11 : Below w.heap.size w w10 := hb9.trans (hb10.mono hb9.size)
  go_wp2_with fail
  go_at_call 7
  refine (known_any _).mono ?_
  rintro e w12 ⟨rfl, hb12⟩
  go_wp2_with fail
  go_ret
  exact ⟨rfl, hb11.trans (hb12.mono hb11.size)⟩

set_option maxHeartbeats 400000 in
theorem cuts_odd (A : Option Addr) (n c : Nat) (cut : Int) (f : Nat → Int) (hf : Byt f) (hn : n ≤ 2000) (hpar : n % 2 = 1) (hcap : n ≤ c) (hc' : c ≤ 9223372036854775807) (w : World) (ha : -9223372036854775808 ≤ cut) (ha' : cut ≤ 9223372036854775807) (hr : Rd w w.heap.size A n f) :
    Calls Try.prog 5 #[.slice A n c, .int .i64 cut] w fun e w' => e = .returned (.bool true) ∧ Below w.heap.size w w' := by
  obtain ⟨i0, hi0, hz0, hz1, hz2⟩ := info_parts Try.info5
  have HI0 := Lib.hid hi0
  have HZ0 := Lib.hid hz0
  have HZ1 := Lib.hid hz1
  have HZ2 := Lib.hid hz2
  clear hi0 hz0 hz1 hz2
  have hp : ((n : Int) % 2 == 1) = true := by simp; omega
  have HP := Lib.hid hpar
  clear hpar
  have HF := Lib.hid hf
  clear hf
  have HR := Lib.hid hr
  clear hr
  go_enter Try.func5, Try.ntmps5
  go_wp2_with fail
  obtain ⟨m, hm, he⟩ := cut_at cut n hn
  rw [he]
  clear he
  refine wp_region_stay (by kernel_rfl) (by kernel_rfl) ?_
  obtain ⟨hq, hq'⟩ := fld_bd (p := (0, false)) HF.out ⟨by omega, by omega⟩ m
  have HE := Lib.hid (fld_cut f (0, false) m (n - m))
  rw [Nat.add_sub_cancel' hm] at HE
  have H1 := Lib.hid fun W : Stay w => Calls.stay W (add_any 0 false A m c f HF.out (by omega) (by omega) W.w (by omega) (by omega) (Stay.rd (HR.out.less hm) W))
  have H3 := Lib.hid fun W : Stay w => Calls.stay W (add_any 0 false A n c f HF.out (by omega) (by omega) W.w (by omega) (by omega) (Stay.rd HR.out W))
  have H2 : Hid (∀ W : Stay w, _) := fun W => Calls.stay W (add_any (fld f (0, false) m).1 (fld f (0, false) m).2 _ (n - m) (c - m) (fun k => f (m + k)) (fun k => HF.out (m + k)) (by omega) (by omega) W.w hq hq' (Stay.rd (HR.out.cut hm hcap) W))
  have HO : Hid (ofv f n = 65535 - (fld f (0, false) n).1) := rfl
  rw [HE.out] at H2
  clear HE
  generalize fld f (0, false) m = q at *
  generalize fld f (0, false) n = r at *
  repeat (go_big_quiet_step (first
    | (go_at_call 10; with_reducible exact H1.out _)
    | (go_at_call 10; with_reducible exact H2.out _)
    | (go_at_call 10; with_reducible exact H3.out _)))
  refine wpQuiet_nil ?_
  intro w' hw'
  obtain ⟨W, rfl⟩ := hw'
  have hb2 := W.below
  clear H1 H2 H3
  clear HO
  generalize (if c = m then A else Option.map (fun x => x.add m) A) = A2
  go_wp2_with (first
    | (at_builtin
       refine wpList_append_rd rfl (.tmp 33) (.tmp 34) _ rfl w.heap.size 5 i0 Try.underlying25 HI0.out HZ0.out HZ1.out HZ2.out (n := 0) (f := f) rfl (Own.fresh _ _ _ rfl hb2.size 5 f) rfl (HR.out.keep (hb2.alloc hb2.size _)) (by omega) (Nat.le_trans hb2.size (alloc_le _ _)) ?_
       intro A1 c1 w1 hown1 hg1 _
       have hb3 : Below w.heap.size w w1 := (hb2.alloc hb2.size _).grown hg1 (Nat.le_trans hb2.size (alloc_le _ _)) (by intro k hk; simp [Value.ownBlock] at hk; have := hb2.size; omega)
       have HO1 : Hid (Own w1 w.heap.size 5 A1 n c1 f) := by
         have e := hown1.same (g := f) (by intro k _; simp [cat])
         rw [Nat.zero_add] at e
         exact e
       clear hown1 hg1)
    | (at_builtin
       refine wpList_append_rd rfl (.tmp 40) (.tmp 41) _ rfl w.heap.size 5 i0 Try.underlying25 HI0.out HZ0.out HZ1.out HZ2.out (n := n) (f := f) rfl (HO1.out.alloc _) rfl (rd_new1 w1 (w1.heap.size + 1) _ rfl (by omega) 0 5) (by omega) (Nat.le_trans hb3.size (alloc_le _ _)) ?_
       intro A3 c3 w3 hown3 hg3 _
       have hb4 : Below w.heap.size w w3 := (hb3.alloc hb3.size _).grown hg3 (Nat.le_trans hb3.size (alloc_le _ _)) (HO1.out.alloc (.cells #[.int .u8 0] 5)).at_
       have HO3 : Hid (Own w3 w.heap.size 5 A3 (n + 1) c3 (cat n f fun _ => 0)) := hown3
       clear hown3 hg3))
  have HRb : Hid (Rd w3 w3.heap.size A n f) := (HR.out.keep hb4).more hb4.size
  have HS := Lib.hid (ofv_bd HF.out n)
  obtain ⟨hv, hv'⟩ := HS.out
  have HFE : Hid (Byt (cat n f fun _ => 0)) := cat_byt n HF.out fun _ => ⟨Int.le_refl 0, (by decide : (0 : Int) ≤ 255)⟩
  have HVE : Hid (ofv (cat n f fun _ => 0) (n + 1) = ofv f n) := ofv_pad HF.out n HP.out
  have HEC : Hid (n + 1 ≤ c3) := HO3.out.cap
  have HOF := Lib.hid (of_any A n c f HF.out (by omega) hcap w3 HRb.out)
  go_wp2_with fail
  go_at_call 8
  refine HOF.out.mono ?_
  rintro e w5 ⟨rfl, hb5⟩
  have HOwn5 : Hid (Own w5 w.heap.size 5 A3 (n + 1) c3 (cat n f fun _ => 0)) := HO3.out.below hb5
  have hb6 : Below w.heap.size w w5 := hb4.trans (hb5.mono hb4.size)
  have HOF2 := Lib.hid (of_any A3 (n + 1) c3 (cat n f fun _ => 0) HFE.out (by omega) HEC.out w5 HOwn5.out.rd)
  rw [HVE.out] at HOF2
  have HFX : Hid (Byt fun k => if k = 0 then ofv f n / 256 else IntKind.u8.wrap (ofv f n)) := fun k => by
    dsimp only
    simp only [IntKind.wrap_u8]
    split <;> omega
  have HX : Hid (ofv (cat (n + 1) (cat n f fun _ => 0) fun k => if k = 0 then ofv f n / 256 else IntKind.u8.wrap (ofv f n)) (n + 1 + 2) = 0) :=
    ofv_own HFE.out HFX.out (n + 1) (by have := HP.out; omega) (by rw [HVE.out]; simp only [IntKind.wrap_u8]; simp; omega)
  generalize ofv f n = vv at *
  go_wp2_with fail
  go_at_call 8
  refine HOF2.out.mono ?_
  rintro e w7 ⟨rfl, hb7⟩
  have hb8 : Below w.heap.size w w7 := hb6.trans (hb7.mono hb6.size)
  have HOwn7 : Hid (Own w7 w.heap.size 5 A3 (n + 1) c3 (cat n f fun _ => 0)) := HOwn5.out.below hb7
  go_wp2_with (first
    | (at_builtin
       refine wpList_append_rd rfl (.tmp 50) (.tmp 56) _ rfl w.heap.size 5 i0 Try.underlying25 HI0.out HZ0.out HZ1.out HZ2.out (n := n + 1) (f := cat n f fun _ => 0) rfl (HOwn7.out.alloc _) rfl (rd_new2 w7 (w7.heap.size + 1) _ rfl (by omega) (vv / 256) (IntKind.u8.wrap vv) 5) (by omega) (Nat.le_trans hb8.size (alloc_le _ _)) ?_
       intro A9 c9 w9 hown9 hg9 _))
  have hb9 : Below w.heap.size w w9 := (hb8.alloc hb8.size _).grown hg9 (Nat.le_trans hb8.size (alloc_le _ _)) (HOwn7.out.alloc (.cells #[.int .u8 (vv / 256), .int .u8 (IntKind.u8.wrap vv)] 5)).at_
  have HOwn9 := Lib.hid hown9
  clear hown9 hg9
  have HOF3 := Lib.hid (of_any A9 (n + 1 + 2) c9 _ (cat_byt (n + 1) HFE.out HFX.out) (by omega) HOwn9.out.cap w9 HOwn9.out.rd)
  rw [HX.out] at HOF3
  go_at_call 8
  refine HOF3.out.mono ?_
  rintro e w10 ⟨rfl, hb10⟩
  have hb11 : Below w.heap.size w w10 := hb9.trans (hb10.mono hb9.size)
  go_wp2_with fail
  go_at_call 7
  refine (known_any _).mono ?_
  rintro e w12 ⟨rfl, hb12⟩
  go_wp2_with fail
  go_ret
  exact ⟨rfl, hb11.trans (hb12.mono hb11.size)⟩

set_option maxHeartbeats 400000 in
theorem cuts_long (A : Option Addr) (n c : Nat) (cut : Int) (w : World) (hn : 2000 < n) (hn' : n ≤ 9223372036854775807) :
    Calls Try.prog 5 #[.slice A n c, .int .i64 cut] w fun e w' => e = .returned (.bool true) ∧ Below w.heap.size w w' := by
  go_enter Try.func5, Try.ntmps5
  go_wp2_with (go_at_call 7; refine (known_any _).mono ?_; rintro e w1 ⟨rfl, hb1⟩)
  go_ret
  exact ⟨rfl, hb1⟩
end Go.Proofs.Ytcdkefgmlhkdcaa
