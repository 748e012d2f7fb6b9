/- SegBack, walked. -/
import Derived.Test.YtmcapemlicjfjaaSq
namespace Go.Proofs.Ytmcapemlicjfjaa
open Go.RowKit
/-- What was read, written. -/
theorem againT (v6 : Bool) (s d : Nat → Int) (hs : Byt s) (hd : Byt d) (f : Nat → Int) (hf : Byt f) (n : Nat) (hn : n ≤ 1600) (hE : tcpE (psq v6 s d 6 n) f n = 0) (O P : Option Addr) (co cp B1 B2 : Nat) (W : World) (ho : Own W B1 5 O (tcpO f) co (fun k => f (20 + k))) (hp : Own W B2 5 P (n - (20 + tcpO f)) cp (fun k => f (20 + tcpO f + k))) :
    Calls Try.prog 14 #[.bool v6, .agg (arr16 s), .agg (arr16 d), .agg (tcpc (w2 f 0) (w2 f 2) (w4 f 4) (w4 f 8) (f 12 % 16) (f 13) (w2 f 14) (w2 f 18) (.slice O (tcpO f) co)), .slice P (n - (20 + tcpO f)) cp] W fun e w' => ∃ U cu g, e = .returned (.tuple #[.slice U n cu, .int .i64 0]) ∧ Own w' W.heap.size 5 U n cu g ∧ (∀ k, k < n → k ≠ 16 → k ≠ 17 → g k = f k) ∧ Below W.heap.size W w' := by
  obtain ⟨a1, a2, a3⟩ := tcp_again hf hE hn
  have b12 := hf 12
  have h := writeT_any v6 s d hs hd (w2 f 0) (w2 f 2) (w4 f 4) (w4 f 8) (f 12 % 16) (f 13) (w2 f 14) (w2 f 18) O (tcpO f) co (fun k => f (20 + k)) P (n - (20 + tcpO f)) cp (fun k => f (20 + tcpO f + k)) (w2_bd hf _) (w2_bd hf _) (w4_bd hf _) (w4_bd hf _) ⟨by omega, by omega⟩ (hf _) (w2_bd hf _) (w2_bd hf _) (fun _ => hf _) (fun _ => hf _) (by omega) (by omega) ho.cap ho.cap_le W ho.rd hp.rd
  rw [a1, a2] at h
  refine h.mono fun e w' hq => ?_
  rcases hq with ⟨h', _⟩ | ⟨_, U, cu, he, hu, hb⟩
  · exact absurd rfl h'
  · exact ⟨U, cu, _, he, hu, fun k hk h16 h17 => tcp_rewrite hf hE _ k hk h16 h17, hb⟩
theorem againU (v6 : Bool) (s d : Nat → Int) (hs : Byt s) (hd : Byt d) (f : Nat → Int) (hf : Byt f) (n : Nat) (hn : n ≤ 1600) (hE : udpE v6 (psq v6 s d 17 n) f n = 0) (P : Option Addr) (cp B2 : Nat) (W : World) (hp : Own W B2 5 P (n - 8) cp (fun k => f (8 + k))) :
    Calls Try.prog 16 #[.bool v6, .agg (arr16 s), .agg (arr16 d), .agg (udpc (w2 f 0) (w2 f 2) (decide (w2 f 6 = 0))), .slice P (n - 8) cp] W fun e w' => ∃ U cu g, e = .returned (.tuple #[.slice U n cu, .int .i64 0]) ∧ Own w' W.heap.size 5 U n cu g ∧ (∀ k, k < 6 ∨ 8 ≤ k → g k = f k) ∧ Below W.heap.size W w' := by
  obtain ⟨a1, a2⟩ := udp_again hE hn
  have h := writeU_any v6 s d hs hd (w2 f 0) (w2 f 2) (decide (w2 f 6 = 0)) P (n - 8) cp (fun k => f (8 + k)) (w2_bd hf _) (w2_bd hf _) (fun _ => hf _) (by omega) W hp.rd
  rw [a1, a2] at h
  refine h.mono fun e w' hq => ?_
  rcases hq with ⟨h', _⟩ | ⟨_, U, cu, he, hu, hb⟩
  · exact absurd rfl h'
  · exact ⟨U, cu, _, he, hu, fun k hk => udp_rewrite hf hE _ k hk, hb⟩
/-- What reading tells, in one form; a segment's parts if it is one. -/
theorem readT_form {f : Nat → Int} (S : Int) (n : Nat) : ∃ (sp dp sq ak re fl wi ur : Int) (on : Nat) (fo : Nat → Int) (pn : Nat) (fp : Nat → Int),
    (tcpE S f n = 0 → sp = w2 f 0 ∧ dp = w2 f 2 ∧ sq = w4 f 4 ∧ ak = w4 f 8 ∧ re = f 12 % 16 ∧ fl = f 13 ∧ wi = w2 f 14 ∧ ur = w2 f 18 ∧ on = tcpO f ∧ fo = (fun k => f (20 + k)) ∧ pn = n - (20 + tcpO f) ∧ fp = (fun k => f (20 + tcpO f + k))) ∧ ∀ w e w', ReadT 5 (tcpE S f n) f n w e w' →
    ∃ O co P cp, e = .returned (.tuple #[.agg (tcpc sp dp sq ak re fl wi ur (.slice O on co)), .slice P pn cp, .int .i64 (tcpE S f n)]) ∧ Own w' w.heap.size 5 O on co fo ∧ Own w' w.heap.size 5 P pn cp fp ∧ Below w.heap.size w w' := by
  by_cases h : tcpE S f n = 0
  · refine ⟨w2 f 0, w2 f 2, w4 f 4, w4 f 8, f 12 % 16, f 13, w2 f 14, w2 f 18, tcpO f, fun k => f (20 + k), n - (20 + tcpO f), fun k => f (20 + tcpO f + k), fun _ => ⟨rfl, rfl, rfl, rfl, rfl, rfl, rfl, rfl, rfl, rfl, rfl, rfl⟩, fun w e w' hq => ?_⟩
    rcases hq with ⟨h', _⟩ | ⟨_, O, co, P, cp, he, ho, hp, hb⟩
    · exact absurd h h'
    · exact ⟨O, co, P, cp, by rw [he, h], ho, hp, hb⟩
  · refine ⟨0, 0, 0, 0, 0, 0, 0, 0, 0, fun _ => 0, 0, fun _ => 0, fun h' => absurd h' h, fun w e w' hq => ?_⟩
    rcases hq with ⟨_, he, hb⟩ | ⟨h', _⟩
    · exact ⟨none, 0, none, 0, he, Own.nil_ _ _ _ _, Own.nil_ _ _ _ _, hb⟩
    · exact absurd h' h
theorem at_in (a : Int) (n : Nat) (hn : 0 < n) (hn' : n ≤ 1600) : ∃ m : Nat, m < n ∧ (IntKind.u64.wrap a).tmod (n : Int) = (m : Int) := by
  have h0 : 0 ≤ IntKind.u64.wrap a := by simp only [IntKind.wrap_u64]; omega
  rw [Int.tmod_eq_emod_of_nonneg h0]
  have h1 := Int.emod_nonneg (IntKind.u64.wrap a) (b := (n : Int)) (by omega)
  have h2 := Int.emod_lt_of_pos (IntKind.u64.wrap a) (b := (n : Int)) (by omega)
  generalize IntKind.u64.wrap a % (n : Int) = r at *
  exact ⟨r.toNat, by omega, by omega⟩
set_option maxRecDepth 100000 in
set_option maxHeartbeats 4000000 in
theorem back_any (v6 : Bool) (s d : Nat → Int) (hs : Byt s) (hd : Byt d) (A : Option Addr) (n c : Nat) (f : Nat → Int) (a x : Int) (hf : Byt f) (hn : n ≤ 1600) (hcap : n ≤ c) (hc9 : c ≤ 9223372036854775807) (ha0 : -9223372036854775808 ≤ a) (ha1 : a ≤ 9223372036854775807) (hx : 0 ≤ x ∧ x ≤ 255) (w : World) (hr : Rd w w.heap.size A n f) :
    Calls Try.prog 5 #[.bool v6, .agg (arr16 s), .agg (arr16 d), .slice A n c, .int .i64 a, .int .u8 x] w fun e w' => e = .returned (.bool true) ∧ Below w.heap.size w w' := by
  obtain ⟨i0, hi0, hz0, hz1, hz2⟩ := info_parts Try.info5
  have HI0 := Lib.hid hi0
  have HZ0 := Lib.hid hz0
  have HZ1 := Lib.hid hz1
  have HZ2 := Lib.hid hz2
  clear hi0 hz0 hz1 hz2
  have KN := Lib.hid known_any
  obtain ⟨sp, dp, sq, ak, re, fl, wi, ur, on, fo, pn, fp, hpt, hrc⟩ := readT_form (f := f) (psq v6 s d 6 n) n
  obtain ⟨E, hE⟩ : ∃ E, E = tcpE (psq v6 s d 6 n) f n := ⟨_, rfl⟩
  have HRT : Hid (∀ W, Rd W W.heap.size A n f → Calls Try.prog 7 #[.bool v6, .agg (arr16 s), .agg (arr16 d), .slice A n c] W fun e w' => ∃ O co P cp, e = .returned (.tuple #[.agg (tcpc sp dp sq ak re fl wi ur (.slice O on co)), .slice P pn cp, .int .i64 E]) ∧ Own w' W.heap.size 5 O on co fo ∧ Own w' W.heap.size 5 P pn cp fp ∧ Below W.heap.size W w') := Lib.hid fun W hr => by
    rw [hE]
    exact (readT_any v6 s d hs hd A n c f hf (by omega) hcap hc9 W hr).mono fun e w' hq => hrc _ _ _ hq
  have HWT : Hid (E = 0 → ∀ O P co cp B1 B2 W, Own W B1 5 O on co fo → Own W B2 5 P pn cp fp → Calls Try.prog 14 #[.bool v6, .agg (arr16 s), .agg (arr16 d), .agg (tcpc sp dp sq ak re fl wi ur (.slice O on co)), .slice P pn cp] W fun e w' => ∃ U cu g, e = .returned (.tuple #[.slice U n cu, .int .i64 0]) ∧ Own w' W.heap.size 5 U n cu g ∧ (∀ k, k < n → k ≠ 16 → k ≠ 17 → g k = f k) ∧ Below W.heap.size W w') := Lib.hid fun h0 O P co cp B1 B2 W ho hp => by
    rw [hE] at h0
    obtain ⟨e0, e1, e2, e3, e4, e5, e6, e7, e8, e9, e10, e11⟩ := hpt h0
    subst e0 e1 e2 e3 e4 e5 e6 e7 e8 e9 e10 e11
    exact againT v6 s d hs hd f hf n hn h0 O P co cp B1 B2 W ho hp
  have HOT : Hid (E = 0 → 20 ≤ n ∧ ∀ (m : Nat) (v : Int), m < n → m ≠ 12 → 0 ≤ v ∧ v ≤ 255 → v ≠ f m → tcpE (psq v6 s d 6 n) (upd f m v) n = 6) := Lib.hid fun h0 => by
    rw [hE] at h0
    exact ⟨(tcp_ok h0).1, fun m v hm h12 hv hd' => tcp_other hf (psq_bd v6 hs hd (by omega) (by omega) n) h0 hm h12 hv hd'⟩
  have HRO : Hid (∀ (m : Nat) (v : Int), 0 ≤ v ∧ v ≤ 255 → ∃ (sp dp sq ak re fl wi ur : Int) (on : Nat) (pn : Nat), ∀ A' c' B W, Own W B 5 A' n c' (upd f m v) → Calls Try.prog 7 #[.bool v6, .agg (arr16 s), .agg (arr16 d), .slice A' n c'] W fun e w' => ∃ O co P cp, e = .returned (.tuple #[.agg (tcpc sp dp sq ak re fl wi ur (.slice O on co)), .slice P pn cp, .int .i64 (tcpE (psq v6 s d 6 n) (upd f m v) n)]) ∧ Below W.heap.size W w') := Lib.hid fun m v hv => by
    obtain ⟨sp, dp, sq, ak, re, fl, wi, ur, on, fo, pn, fp, _, hrc⟩ := readT_form (f := upd f m v) (psq v6 s d 6 n) n
    refine ⟨sp, dp, sq, ak, re, fl, wi, ur, on, pn, fun A' c' B W ho => ?_⟩
    exact (readT_any v6 s d hs hd A' n c' _ (upd_byt hf m hv) (by omega) ho.cap ho.cap_le W ho.rd).mono fun e w' hq => by
      obtain ⟨O, co, P, cp, he, _, _, hb⟩ := hrc _ _ _ hq
      exact ⟨O, co, P, cp, he, hb⟩
  have HRU : Hid (∀ W, Rd W W.heap.size A n f → Calls Try.prog 10 #[.bool v6, .agg (arr16 s), .agg (arr16 d), .slice A n c] W (ReadU 5 (udpE v6 (psq v6 s d 17 n) f n) f n W)) := Lib.hid fun W hr => readU_any v6 s d hs hd A n c f hf (by omega) hcap hc9 W hr
  obtain ⟨F, hF⟩ : ∃ F, F = udpE v6 (psq v6 s d 17 n) f n := ⟨_, rfl⟩
  have HWU : Hid (F = 0 → 8 ≤ n ∧ ∀ P cp B2 W, Own W B2 5 P (n - 8) cp (fun k => f (8 + k)) → Calls Try.prog 16 #[.bool v6, .agg (arr16 s), .agg (arr16 d), .agg (udpc (w2 f 0) (w2 f 2) (decide (w2 f 6 = 0))), .slice P (n - 8) cp] W fun e w' => ∃ U cu g, e = .returned (.tuple #[.slice U n cu, .int .i64 0]) ∧ Own w' W.heap.size 5 U n cu g ∧ (∀ k, k < 6 ∨ 8 ≤ k → g k = f k) ∧ Below W.heap.size W w') := Lib.hid fun h0 => by
    rw [hF] at h0
    exact ⟨(udp_ok h0).1, fun P cp B2 W hp => againU v6 s d hs hd f hf n hn h0 P cp B2 W hp⟩
  rw [← hF] at HRU
  have HR := Lib.hid hr
  have HF := Lib.hid hf
  clear hs hd hf hr hrc hpt hE hF
  generalize psq v6 s d 6 n = S at *
  have g1 : ¬ (1600 : Int) < (n : Int) := by omega
  have HX1 := Lib.hid (Box2.start w s d)
  go_enter Try.func5, Try.ntmps5
  go_upto_if 30 with fail
  change Code.wp _ _ _ _ ((w.alloc (.cells (arr16 s) 22)).alloc (.cells (arr16 d) 22))
  generalize (w.alloc (.cells (arr16 s) 22)).alloc (.cells (arr16 d) 22) = u1 at *
  go_wp2_with (first
    | (refine wpList_load_roww rfl 22 (.tmp 7) rfl w.heap.size rfl 22 (arr16 s) (0, 0) _ HX1.out.b0 Try.underlying22 rfl (by kernel_rfl) ?_) | (refine wpList_load_roww rfl 22 (.tmp 8) rfl (w.heap.size + 1) rfl 22 (arr16 d) (0, 0) _ HX1.out.b1 Try.underlying22 rfl (by kernel_rfl) ?_))
  go_at_call 7
  refine (HRT.out u1 ((HR.out.keep HX1.out.below).more HX1.out.below.size)).mono ?_
  rintro e u2 ⟨O1, co1, P1, cp1, rfl, ho1, hp1, hb2⟩
  clear g1
  obtain ⟨CS, hCS⟩ : ∃ CS, CS = tcpc sp dp sq ak re fl wi ur (.slice O1 on co1) := ⟨_, rfl⟩
  have HCS := Lib.hid hCS
  have H1 : Hid (CS.all (·.oneCell') = true) := Lib.hid (by rw [hCS]; exact tcp_one ..)
  have HSZ : Hid (CS.size = 9) := Lib.hid (by rw [hCS]; rfl)
  have hi9 := Lib.hid (show (Try.prog.info? 28).map (·.size) = some 9 by kernel_rfl)
  rw [← hCS]
  clear hCS
  have HN : Hid ((u2.alloc (.cells tcpz 28)).heap[u2.heap.size]? = some (.cells tcpz 28 (0, 0))) := heap_alloc_new u2 _
  have HB_s : Hid (Below u2.heap.size u2 ((u2.alloc (.cells tcpz 28)).setRow u2.heap.size CS)) := below_setRow (below_alloc u2 _) (Nat.le_refl _) CS
  have HT_s : Hid (((u2.alloc (.cells tcpz 28)).setRow u2.heap.size CS).heap[u2.heap.size]? = some (.cells CS 28 (0, 0))) := setRow_heap _ _ _ CS _ _ HN.out
  go_upto_region 4 with (first
    | (refine wpList_store_row rfl 28 (.tmp 13) (.tmp 38) rfl u2.heap.size CS rfl rfl 28 tcpz HN.out (hi9.out.trans (by rw [HSZ.out])) (by rw [HSZ.out]; rfl) H1.out ?_))
  change Code.wp _ _ _ _ ((u2.alloc (.cells tcpz 28)).setRow u2.heap.size CS)
  clear HN
  generalize (u2.alloc (.cells tcpz 28)).setRow u2.heap.size CS = u3 at *
  have HT3 := HT_s
  have HX3 := Lib.hid ((HX1.out.step hb2).step HB_s.out)
  have HO3 := Lib.hid (ho1.below HB_s.out)
  have HP3 := Lib.hid (hp1.below HB_s.out)
  clear HT_s HB_s ho1 hp1 hb2 HRT HX1
  go_upto_if 42 with fail
  go_cut [] from 16 to 119 (fun wx => Hid (Below u3.heap.size u3 wx))
  case first =>
    by_cases hE0 : E = 0
    · have HW1 := Lib.hid (HWT.out hE0)
      have hOT := HOT.out hE0
      have h20 : 20 ≤ n := hOT.1
      have HOT1 := Lib.hid hOT.2
      subst hE0
      clear HWT HOT hOT
      go_wp2_with (first
        | (refine wpList_load_roww rfl 22 (.tmp 7) rfl w.heap.size rfl 22 (arr16 s) (0, 0) _ HX3.out.b0 Try.underlying22 rfl (by kernel_rfl) ?_) | (refine wpList_load_roww rfl 22 (.tmp 8) rfl (w.heap.size + 1) rfl 22 (arr16 d) (0, 0) _ HX3.out.b1 Try.underlying22 rfl (by kernel_rfl) ?_) | (refine wpList_load_roww rfl 28 (.tmp 13) rfl u2.heap.size rfl 28 CS (0, 0) _ HT3.out Try.underlying28 rfl (hi9.out.trans (by rw [HSZ.out])) ?_))
      have HW2 := Lib.hid (HW1.out O1 P1 co1 cp1 _ _ u3 HO3.out HP3.out)
      rw [← HCS.out] at HW2
      go_at_call 14
      refine HW2.out.mono ?_
      rintro e u4 ⟨U1, cu1, g, rfl, hu4, hg4, hb4⟩
      have B34 := Lib.hid hb4
      have HU4 := Lib.hid hu4
      have HG4 := Lib.hid hg4
      have HX4 := Lib.hid (HX3.out.step hb4)
      clear hu4 hg4 hb4 HW1 HW2 HO3 HP3 HCS
      rcases HR.out with h0 | ⟨b, off, rfl, hbb, hcell⟩
      · omega
      have HC := Lib.hid hcell
      clear hcell
      obtain ⟨gu, hgu, _, hgl, hgc, _⟩ := HU4.out.lies (by omega)
      subst hgu
      have HGC := Lib.hid hgc
      clear hgc
      go_upto_if 60 with fail
      go_wp2_with fail
      go_loopw [63] (fun i wr => ∃ k : Nat, k ≤ n ∧ i = .int .i64 k ∧ Hid (Below u4.heap.size u4 wr)) (fun i _ => n - (intOf i).toNat)
      case atStart => exact ⟨0, by omega, rfl, Below.refl _ _⟩
      case round =>
        obtain ⟨k, hk, rfl, B4r⟩ := hrel
        by_cases hlk : k < n
        · have e1 := (B4r.out.cell (p := ⟨gu, k, none⟩) hgl).trans (HGC.out k hlk)
          have e2 := ((HX4.out.below.trans (B4r.out.mono HX4.out.below.size)).cell (p := ⟨b, off + k, none⟩) hbb).trans (HC.out k hlk)
          have i0 : (0 : Int) ≤ (k : Int) := by omega
          have i1 : (k : Int) < (n : Int) := by omega
          have i2 : ((k : Int)).toNat = k := by omega
          have i7 : IntKind.i64.wrap ((k : Int) + 1) = (k : Int) + 1 := by rw [IntKind.wrap_i64]; omega
          have hGk := HG4.out k hlk
          generalize g k = gk at *
          generalize f k = fk at *
          by_cases q16 : k = 16
          · subst q16
            clear hGk
            by_cases hq : gk = fk
            · have hq' : (gk != fk) = false := by simp [hq]
              clear hq
              go_upto_region 11 with fail
              go_quiet (fail)
              go_wp2_with fail
              go_roundw
              case rel => exact ⟨16 + 1, by omega, by go_num, Lib.hid (below_drewN B4r.out _)⟩
              case measure => simp [intOf]; omega
            · have hq' : (gk != fk) = true := by simpa using hq
              clear hq
              go_upto_region 11 with fail
              go_quiet (fail)
              go_wp2_with fail
              go_roundw
              case rel => exact ⟨16 + 1, by omega, by go_num, Lib.hid (below_drewN B4r.out _)⟩
              case measure => simp [intOf]; omega
          · by_cases q17 : k = 17
            · subst q17
              clear hGk
              by_cases hq : gk = fk
              · have hq' : (gk != fk) = false := by simp [hq]
                clear hq
                go_upto_region 11 with fail
                go_quiet (fail)
                go_wp2_with fail
                go_roundw
                case rel => exact ⟨17 + 1, by omega, by go_num, Lib.hid (below_drewN B4r.out _)⟩
                case measure => simp [intOf]; omega
              · have hq' : (gk != fk) = true := by simpa using hq
                clear hq
                go_upto_region 11 with fail
                go_quiet (fail)
                go_wp2_with fail
                go_roundw
                case rel => exact ⟨17 + 1, by omega, by go_num, Lib.hid (below_drewN B4r.out _)⟩
                case measure => simp [intOf]; omega
            · have hq' : (gk != fk) = false := by simp [hGk q16 q17]
              clear hGk q16 q17
              go_upto_region 11 with fail
              go_quiet (fail)
              go_wp2_with fail
              go_roundw
              case rel => exact ⟨k + 1, by omega, by go_num, Lib.hid (below_drewN B4r.out _)⟩
              case measure => simp [intOf]; omega
        · obtain rfl : n = k := by omega
          clear hlk hk
          obtain ⟨m, hm, hmr⟩ := at_in a n (by omega) hn
          have z1 : IntKind.u64.wrap (n : Int) = (n : Int) := by simp only [IntKind.wrap_u64]; omega
          have z2 : IntKind.u64.wrap (m : Int) = (m : Int) := by simp only [IntKind.wrap_u64]; omega
          have z3 : IntKind.i64.wrap (m : Int) = (m : Int) := by rw [IntKind.wrap_i64]; omega
          have z4 : (n : Int) ≠ 0 := by omega
          obtain ⟨v, hv, hv0, hv1, hvx⟩ := xor_u8 (f m) x (HF.out m) hx
          obtain ⟨sp2, dp2, sq2, ak2, re2, fl2, wi2, ur2, on2, pn2, hro⟩ := HRO.out m v ⟨hv0, hv1⟩
          have HRO2 := Lib.hid hro
          have HOT2 := Lib.hid (fun h12 hd' => HOT1.out m v hm h12 ⟨hv0, hv1⟩ hd')
          obtain ⟨E2, hE2⟩ : ∃ E2, E2 = tcpE S (upd f m v) n := ⟨_, rfl⟩
          rw [← hE2] at HRO2 HOT2
          have HVX := Lib.hid hvx
          clear hro hE2 HRO HOT1 hvx hv0 hv1
          have HXr := Lib.hid (HX4.out.step B4r.out)
          have B3r : Hid (Below u3.heap.size u3 wr) := B34.out.trans (B4r.out.mono B34.out.size)
          have HRr : Hid (Rd wr w.heap.size (some ⟨b, off, none⟩) n f) := HR.out.keep HXr.out.below
          clear HX4 B4r B34 HU4 HG4 HGC HC
          have HO0 : Hid (Own (wr.alloc (.cells #[] 5)) wr.heap.size 5 (some ⟨wr.heap.size, 0, none⟩) 0 0 (fun _ => 0)) := Own.fresh wr _ _ rfl (Nat.le_refl _) _ _
          have Bra : Hid (Below wr.heap.size wr (wr.alloc (.cells #[] 5))) := below_alloc wr _
          go_upto_region 16 with (first
            | (at_builtin
               refine wpList_append_rd rfl (.tmp 91) (.tmp 92) _ rfl wr.heap.size 5 i0 Try.underlying23 HI0.out HZ0.out HZ1.out HZ2.out rfl HO0.out rfl (HRr.out.keep (Bra.out.mono HXr.out.below.size)) (by omega) (alloc_le wr _) ?_
               intro A5 c5 u5 hown5 hg5 _
               rw [Nat.zero_add] at hown5
               have HO5 : Hid (Own u5 wr.heap.size 5 A5 n c5 f) := hown5.same fun k _ => by simp [cat]
               have Br5 : Hid (Below wr.heap.size wr u5) := Bra.out.grown hg5 Bra.out.size (fun k hk => HO0.out.at_ k hk)
               rw [Nat.zero_add]
               clear hown5 hg5))
          clear HO0 Bra z1 z2 z3 z4 hmr
          obtain ⟨g5, hg5, hgb5, _, hgc5, hgf5⟩ := HO5.out.lies (by omega)
          subst hg5
          have c1 := hgc5 m hm
          have c2 := hgf5 m
          have i0 : (0 : Int) ≤ (m : Int) := by omega
          have i1 : (m : Int) < (n : Int) := by omega
          have i2 : ((m : Int)).toNat = m := by omega
          have HO6 : Hid (Own (u5.setCell ⟨g5, m, none⟩ (.int .u8 v)) wr.heap.size 5 (some ⟨g5, 0, none⟩) n c5 (upd f m v)) := HO5.out.set_ m v
          have Br6 : Hid (Below wr.heap.size wr (u5.setCell ⟨g5, m, none⟩ (.int .u8 v))) := Br5.out.setCell hgb5 _
          clear hgc5 hgf5
          go_upto_region 17 with fail
          clear c1 c2 i0 i2 hv Br5 HO5
          generalize u5.setCell ⟨g5, m, none⟩ (.int .u8 v) = u6 at *
          have HX6 := Lib.hid (HXr.out.step Br6.out)
          go_wp2_with (first
            | (refine wpList_load_roww rfl 22 (.tmp 7) rfl w.heap.size rfl 22 (arr16 s) (0, 0) _ HX6.out.b0 Try.underlying22 rfl (by kernel_rfl) ?_) | (refine wpList_load_roww rfl 22 (.tmp 8) rfl (w.heap.size + 1) rfl 22 (arr16 d) (0, 0) _ HX6.out.b1 Try.underlying22 rfl (by kernel_rfl) ?_))
          go_at_call 7
          refine (HRO2.out _ c5 _ u6 HO6.out).mono ?_
          rintro e u7 ⟨O7, co7, P7, cp7, rfl, hb7⟩
          obtain ⟨CZ, hCZ⟩ : ∃ CZ, CZ = tcpc sp2 dp2 sq2 ak2 re2 fl2 wi2 ur2 (.slice O7 on2 co7) := ⟨_, rfl⟩
          have H1Z : Hid (CZ.all (·.oneCell') = true) := Lib.hid (by rw [hCZ]; exact tcp_one ..)
          have HSZZ : Hid (CZ.size = 9) := Lib.hid (by rw [hCZ]; rfl)
          rw [← hCZ]
          clear hCZ
          have HN : Hid ((u7.alloc (.cells tcpz 28)).heap[u7.heap.size]? = some (.cells tcpz 28 (0, 0))) := heap_alloc_new u7 _
          have HB_s : Hid (Below u7.heap.size u7 ((u7.alloc (.cells tcpz 28)).setRow u7.heap.size CZ)) := below_setRow (below_alloc u7 _) (Nat.le_refl _) CZ
          have HT_s : Hid (((u7.alloc (.cells tcpz 28)).setRow u7.heap.size CZ).heap[u7.heap.size]? = some (.cells CZ 28 (0, 0))) := setRow_heap _ _ _ CZ _ _ HN.out
          go_upto_region 18 with (first
            | (refine wpList_store_row rfl 28 (.tmp 21) (.tmp 107) rfl u7.heap.size CZ rfl rfl 28 tcpz HN.out (hi9.out.trans (by rw [HSZZ.out])) (by rw [HSZZ.out]; rfl) H1Z.out ?_))
          change Code.wp _ _ _ _ ((u7.alloc (.cells tcpz 28)).setRow u7.heap.size CZ)
          clear HN
          generalize (u7.alloc (.cells tcpz 28)).setRow u7.heap.size CZ = u8 at *
          have B38 : Hid (Below u3.heap.size u3 u8) := B3r.out.trans ((Br6.out.trans ((hb7.trans (HB_s.out.mono hb7.size)).mono Br6.out.size)).mono B3r.out.size)
          clear HT_s HB_s hb7 HRO2 HO6 HX6 Br6 HXr HRr B3r H1Z HSZZ
          by_cases q12 : m = 12
          · subst q12
            clear HOT2 HVX
            go_wp2_with fail
            go_meet
            exact B38
          · have q12' : ((m : Int) != 12) = true := by simp; omega
            by_cases qx : x = 0
            · subst qx
              clear HOT2 HVX
              go_wp2_with fail
              go_meet
              exact B38
            · have qx' : (x != 0) = true := by simpa using qx
              have hE6 : E2 = 6 := HOT2.out q12 (HVX.out qx)
              subst hE6
              clear HOT2 HVX q12 qx
              go_wp2_with fail
              go_meet
              exact B38
    · have hE1 : (E == 0) = false := by simpa using hE0
      clear hE0 HWT HOT
      go_wp2_with fail
      go_meet
      exact Lib.hid (Below.refl _ _)
  case rest =>
  have B3c := hcut
  clear hcut HWT HOT HRO HO3 HP3
  have HXc := Lib.hid (HX3.out.step B3c.out)
  clear HX3 B3c HT3 HCS H1 HSZ
  go_wp2_with (first
    | (refine wpList_load_roww rfl 22 (.tmp 7) rfl w.heap.size rfl 22 (arr16 s) (0, 0) _ HXc.out.b0 Try.underlying22 rfl (by kernel_rfl) ?_) | (refine wpList_load_roww rfl 22 (.tmp 8) rfl (w.heap.size + 1) rfl 22 (arr16 d) (0, 0) _ HXc.out.b1 Try.underlying22 rfl (by kernel_rfl) ?_))
  go_at_call 10
  refine (HRU.out wc ((HR.out.keep HXc.out.below).more HXc.out.below.size)).mono ?_
  rintro e u2 hq
  have hi3 := Lib.hid (show (Try.prog.info? 34).map (·.size) = some 3 by kernel_rfl)
  rcases hq with ⟨hF0, rfl, hb2⟩ | ⟨hF0, P2, cp2, rfl, hp2, hb2⟩
  · have hF1 : (F != 0) = true := by simpa using hF0
    have HN : Hid ((u2.alloc (.cells udpz 34)).heap[u2.heap.size]? = some (.cells udpz 34 (0, 0))) := heap_alloc_new u2 _
    have HB_s : Hid (Below u2.heap.size u2 ((u2.alloc (.cells udpz 34)).setRow u2.heap.size udpz)) := below_setRow (below_alloc u2 _) (Nat.le_refl _) udpz
    have HT_s : Hid (((u2.alloc (.cells udpz 34)).setRow u2.heap.size udpz).heap[u2.heap.size]? = some (.cells udpz 34 (0, 0))) := setRow_heap _ _ _ udpz _ _ HN.out
    go_upto_region 21 with (first
      | (refine wpList_store_row rfl 34 (.tmp 24) (.tmp 126) rfl u2.heap.size udpz rfl rfl 34 udpz HN.out (by kernel_rfl) rfl udpz_one ?_))
    change Code.wp _ _ _ _ ((u2.alloc (.cells udpz 34)).setRow u2.heap.size udpz)
    clear HN
    generalize (u2.alloc (.cells udpz 34)).setRow u2.heap.size udpz = u3 at *
    have HX3 : Hid (Below w.heap.size w u3) := HXc.out.below.trans ((hb2.trans (HB_s.out.mono hb2.size)).mono HXc.out.below.size)
    go_wp2_with (first
      | (go_at_call 6; refine (KN.out _).mono ?_; rintro e u9 ⟨rfl, hb9⟩))
    go_ret
    exact ⟨rfl, HX3.out.trans (hb9.mono HX3.out.size)⟩
  · have hwu := HWU.out hF0
    have h8 : 8 ≤ n := hwu.1
    have HW1 := Lib.hid hwu.2
    subst hF0
    clear hwu HWU
    obtain ⟨CU, hCU⟩ : ∃ CU, CU = udpc (w2 f 0) (w2 f 2) (decide (w2 f 6 = 0)) := ⟨_, rfl⟩
    have H1Z : Hid (CU.all (·.oneCell') = true) := Lib.hid (by rw [hCU]; exact udp_one ..)
    have HSZZ : Hid (CU.size = 3) := Lib.hid (by rw [hCU]; rfl)
    rw [← hCU] at HW1 ⊢
    clear hCU
    have HN : Hid ((u2.alloc (.cells udpz 34)).heap[u2.heap.size]? = some (.cells udpz 34 (0, 0))) := heap_alloc_new u2 _
    have HB_s : Hid (Below u2.heap.size u2 ((u2.alloc (.cells udpz 34)).setRow u2.heap.size CU)) := below_setRow (below_alloc u2 _) (Nat.le_refl _) CU
    have HT_s : Hid (((u2.alloc (.cells udpz 34)).setRow u2.heap.size CU).heap[u2.heap.size]? = some (.cells CU 34 (0, 0))) := setRow_heap _ _ _ CU _ _ HN.out
    go_upto_region 21 with (first
      | (refine wpList_store_row rfl 34 (.tmp 24) (.tmp 126) rfl u2.heap.size CU rfl rfl 34 udpz HN.out (hi3.out.trans (by rw [HSZZ.out])) (by rw [HSZZ.out]; rfl) H1Z.out ?_))
    change Code.wp _ _ _ _ ((u2.alloc (.cells udpz 34)).setRow u2.heap.size CU)
    clear HN
    generalize (u2.alloc (.cells udpz 34)).setRow u2.heap.size CU = u3 at *
    have HT3 := HT_s
    have HX3 := Lib.hid ((HXc.out.step hb2).step HB_s.out)
    have HP3 := Lib.hid (hp2.below HB_s.out)
    clear HT_s HB_s hp2 hb2 HXc HRU
    go_wp2_with (first
      | (refine wpList_load_roww rfl 22 (.tmp 7) rfl w.heap.size rfl 22 (arr16 s) (0, 0) _ HX3.out.b0 Try.underlying22 rfl (by kernel_rfl) ?_) | (refine wpList_load_roww rfl 22 (.tmp 8) rfl (w.heap.size + 1) rfl 22 (arr16 d) (0, 0) _ HX3.out.b1 Try.underlying22 rfl (by kernel_rfl) ?_) | (refine wpList_load_roww rfl 34 (.tmp 24) rfl u2.heap.size rfl 34 CU (0, 0) _ HT3.out Try.underlying34 rfl (hi3.out.trans (by rw [HSZZ.out])) ?_))
    go_at_call 16
    refine (HW1.out P2 cp2 _ u3 HP3.out).mono ?_
    rintro e u4 ⟨U1, cu1, g, rfl, hu4, hg4, hb4⟩
    have HX4 := Lib.hid (HX3.out.step hb4)
    have HR4 : Hid (Rd u4 u4.heap.size A n f) := Lib.hid ((HR.out.keep HX4.out.below).more HX4.out.below.size)
    have hcu := hu4.cap
    have hcu9 := hu4.cap_le
    have HU4 := Lib.hid hu4.rd
    obtain ⟨D1, s1, r1⟩ := slice_to U1 n cu1 6 (by omega) hcu hcu9
    obtain ⟨D2, s2, r2⟩ := slice_to A n c 6 (by omega) hcap hc9
    obtain ⟨D3, s3, r3⟩ := slice_any U1 n cu1 8 (by omega) hcu hcu9
    obtain ⟨D4, s4, r4⟩ := slice_any A n c 8 (by omega) hcap hc9
    have s1' : ∀ W, (Instr.sliceAt 23 (.slice U1 n cu1) none (some (.int .i64 6)) none).run Try.prog W = .ok (.slice D1 6 cu1) W := s1
    have s2' : ∀ W, (Instr.sliceAt 23 (.slice A n c) none (some (.int .i64 6)) none).run Try.prog W = .ok (.slice D2 6 c) W := s2
    have s3' : ∀ W, (Instr.sliceAt 23 (.slice U1 n cu1) (some (.int .i64 8)) none none).run Try.prog W = .ok (.slice D3 (n - 8) (cu1 - 8)) W := s3
    have s4' : ∀ W, (Instr.sliceAt 23 (.slice A n c) (some (.int .i64 8)) none none).run Try.prog W = .ok (.slice D4 (n - 8) (c - 8)) W := s4
    obtain ⟨S1, hS1⟩ : ∃ S1, S1 = strOfNums (nums 6 f) := ⟨_, rfl⟩
    obtain ⟨S2, hS2⟩ : ∃ S2, S2 = strOfNums (nums (n - 8) fun k => f (8 + k)) := ⟨_, rfl⟩
    have hv1 : ∀ W : Stay u4, (convert 23 9 (.slice D1 6 cu1)).run Try.prog W.w = .ok (.string S1) W.w := fun W => by
      have h := run_convert_rd (P := Try.prog) (r1 W.w _ _ (Stay.rd HU4.out W)) 23 5 9 cu1 Try.underlying23 Try.underlying5 Try.underlying9
      rw [nums_congr (f := f) (fun k hk => hg4 k (by omega)), ← hS1] at h
      exact h
    have hv2 : ∀ W : Stay u4, (convert 23 9 (.slice D2 6 c)).run Try.prog W.w = .ok (.string S1) W.w := fun W => by
      rw [hS1]
      exact run_convert_rd (P := Try.prog) (r2 W.w _ _ (Stay.rd HR4.out W)) 23 5 9 c Try.underlying23 Try.underlying5 Try.underlying9
    have hv3 : ∀ W : Stay u4, (convert 23 9 (.slice D3 (n - 8) (cu1 - 8))).run Try.prog W.w = .ok (.string S2) W.w := fun W => by
      have h := run_convert_rd (P := Try.prog) (r3 W.w _ _ (Stay.rd HU4.out W)) 23 5 9 (cu1 - 8) Try.underlying23 Try.underlying5 Try.underlying9
      rw [nums_congr (f := fun k => f (8 + k)) (fun k hk => hg4 (8 + k) (by omega)), ← hS2] at h
      exact h
    have hv4 : ∀ W : Stay u4, (convert 23 9 (.slice D4 (n - 8) (c - 8))).run Try.prog W.w = .ok (.string S2) W.w := fun W => by
      rw [hS2]
      exact run_convert_rd (P := Try.prog) (r4 W.w _ _ (Stay.rd HR4.out W)) 23 5 9 (c - 8) Try.underlying23 Try.underlying5 Try.underlying9
    have HXB := Lib.hid HX4.out.below
    clear s1 s2 s3 s4 r1 r2 r3 r4 hS1 hS2 hu4 hg4 hb4 HX3 HX4 HP3 HT3 HW1 HU4 HR4 hcu hcu9
    go_upto_region 24 with fail
    refine wp_region_stay (by kernel_rfl) (by kernel_rfl) ?_
    repeat (go_big_quiet_step (first
      | (go_at_call 6; exact Calls.stay _ (KN.out _))))
    refine wpQuiet_nil ?_
    intro w' hw'
    obtain ⟨W, rfl⟩ := hw'
    have hb2 := W.below
    go_wp2_with fail
    go_ret
    exact ⟨rfl, HXB.out.trans (hb2.mono HXB.out.size)⟩
set_option maxRecDepth 100000 in
set_option maxHeartbeats 1000000 in
theorem back_long (v6 : Bool) (s d : Nat → Int) (A : Option Addr) (n c : Nat) (a x : Int) (hn : n ≤ 9223372036854775807) (h : 1600 < n) (w : World) :
    Calls Try.prog 5 #[.bool v6, .agg (arr16 s), .agg (arr16 d), .slice A n c, .int .i64 a, .int .u8 x] w fun e w' => e = .returned (.bool true) ∧ Below w.heap.size w w' := by
  have KN := Lib.hid known_any
  have HB1 := Lib.hid (below_alloc2 w (.cells (arr16 s) 22) (.cells (arr16 d) 22))
  have a' : (1600 : Int) < (n : Int) := by omega
  go_enter Try.func5, Try.ntmps5
  go_wp2_with (first
    | (go_at_call 6; refine (KN.out _).mono ?_; rintro e w3 ⟨rfl, hb3⟩))
  go_ret
  exact ⟨rfl, HB1.out.trans (hb3.mono HB1.out.size)⟩
end Go.Proofs.Ytmcapemlicjfjaa
