import Derived.Deep.CutRange
import Derived.Test.YthjghofjdcepmaaGm32
import Derived.Test.YthjghofjdcepmaaGm37
import Derived.Test.YthjghofjdcepmaaGm38
import Derived.Test.YthjghofjdcepmaaGm2
/- Stage 14: ResizeKeeps. -/
namespace Go.Proofs.Ythjghofjdcepmaa
set_option maxRecDepth 100000
open Go.RowKit Go.Shelf
/-- Keys that stand there once, each a byte. -/
def MK (M : List (Nat × Bool)) : Prop := (M.map (·.1)).Nodup ∧ ∀ q ∈ M, q.1 < 256
theorem mput_mem (x : Nat) (v : Bool) : ∀ (M : List (Nat × Bool)) (q : Nat × Bool), q ∈ mput x v M → q = (x, v) ∨ q ∈ M
  | [], q, h => .inl (List.mem_singleton.1 h)
  | r :: M, q, h => by
    unfold mput at h
    split at h
    · rcases List.mem_cons.1 h with e | e
      · exact .inl e
      · exact .inr (List.mem_cons_of_mem _ e)
    · rcases List.mem_cons.1 h with e | e
      · exact .inr (by rw [e]; exact List.mem_cons_self)
      · exact (mput_mem x v M q e).imp id (List.mem_cons_of_mem _)
theorem mput_keys (x : Nat) (v : Bool) : ∀ (M : List (Nat × Bool)), (M.map (·.1)).Nodup → ((mput x v M).map (·.1)).Nodup
  | [], _ => by simp [mput]
  | r :: M, h => by
    rw [List.map_cons, List.nodup_cons] at h
    unfold mput
    split
    · rename_i e
      rw [List.map_cons, List.nodup_cons]
      exact ⟨by show ¬ x ∈ _; rw [e]; exact h.1, h.2⟩
    · rename_i e
      rw [List.map_cons, List.nodup_cons]
      refine ⟨fun hm => ?_, mput_keys x v M h.2⟩
      obtain ⟨q, hq, e2⟩ := List.mem_map.1 hm
      rcases mput_mem x v M q hq with e3 | e3
      · rw [e3] at e2
        exact e e2
      · exact h.1 (List.mem_map.2 ⟨q, e3, e2⟩)
theorem mk_put {M : List (Nat × Bool)} (h : MK M) {x : Nat} {v : Bool} (hx : x < 256) : MK (mput x v M) :=
  ⟨mput_keys x v M h.1, fun q hq => by rcases mput_mem x v M q hq with e | e; rw [e]; exact hx; exact h.2 q e⟩
theorem mk_look : ∀ {M : List (Nat × Bool)}, (M.map (·.1)).Nodup → ∀ {y : Nat} {v : Bool}, (y, v) ∈ M → mlook y M = v
  | [], _, _, _, h => by cases h
  | r :: M, hn, y, v, h => by
    rw [List.map_cons, List.nodup_cons] at hn
    unfold mlook
    rcases List.mem_cons.1 h with e | e
    · rw [← e, if_pos rfl]
    · rw [if_neg fun q => hn.1 (List.mem_map.2 ⟨(y, v), e, q⟩)]
      exact mk_look hn.2 e
section
variable {PG : World → Nat → Gr → (Nat → Prop) → Prop} {g : Nat}
theorem gkeeps_long (HP : GroP PG g) (A : Option Addr) (m c : Nat) (st : Int) (hm : 120 < m) (w : World) : Calls Try.prog 4 #[.slice A m c, .int .u64 st] w (ret (.bool true) w) := by
  have h1 : (120 : Int) < (m : Int) := by omega
  have HN := Lib.hid (HP.new 128 w (by decide))
  have HK := Lib.hid fun W => gknown_any HP W
  clear HP
  go_enter Try.func4, Try.ntmps4
  go_wp2_with (first
    | (go_at_call 7
       refine HN.out.mono ?_
       rintro e v ⟨p, F, rfl, _, _, hb⟩
       have HB := Lib.hid hb
       clear hb)
    | (go_at_call 6
       refine (HK.out _).mono ?_
       rintro e u ⟨rfl, hb⟩
       have HB2 := Lib.hid (HB.out.trans (hb.mono HB.out.size))
       clear hb))
  go_ret
  exact ⟨rfl, HB2.out⟩
set_option maxHeartbeats 8000000 in
theorem gkeeps_any (HP0 : GroP PG g) (A : Option Addr) (m c : Nat) (f : Nat → Int) (hf : Byt f) (hm : m ≤ 120) (S : Nat) (hS : S < 18446744073709551616) (w : World) (hr : Rd w w.heap.size A m f) : Calls Try.prog 4 #[.slice A m c, .int .u64 (S : Int)] w (ret (.bool true) w) := by
  have h1 : ¬ (120 : Int) < (m : Int) := by omega
  have HP := Lib.hid HP0
  have HR := Lib.hid hr
  have HF := Lib.hid hf
  have HSS := Lib.hid hS
  have HN := Lib.hid (HP0.new 128 w (by decide))
  have hmm := @run_makeMap Try.prog
  have hbd : ∀ (a b : Int) (W : World), (Instr.build 34 #[(0, .int .u64 a), (1, .int .u32 b)]).run Try.prog W = .ok (.agg #[.int .u64 a, .int .u32 b]) W := fun a b W => by kernel_rfl
  clear hr hf HP0 hS
  go_enter Try.func4, Try.ntmps4
  go_upto_region 6 with (first
    | (go_at_call 7
       refine HN.out.mono ?_
       rintro e v ⟨p, F, rfl, hF0, hn, hb⟩
       have HS0 := Lib.hid (StG.start ⟨F, hF0, hn⟩ hb)
       clear hF0 hn hb))
  go_upto_region 7 with fail
  have HS1 := Lib.hid ((HS0.out.box HP.out.foot (.map #[] 0)).less (Y := fun k => k = v.heap.size) fun k e => .inr e)
  have HM1 := Lib.hid (rmap_new v kvU)
  have HBW : Hid (w.heap.size ≤ v.heap.size) := Lib.hid HS0.out.below.size
  obtain ⟨bm, hbm⟩ : ∃ b, b = v.heap.size := ⟨_, rfl⟩
  rw [← hbm] at HS1 HM1 HBW ⊢
  clear hbm hmm HS0
  generalize v.alloc (.map #[] 0) = u1 at *
  go_wp2_with fail
  go_loopw [8, 9, 36] (fun vl vm vi wr => ∃ (k : Nat) (s : Gr) (M : List (Nat × Bool)) (A B : Nat → Bool) (lf : Int), k ≤ m ∧ vi = .int .i64 (k : Int) ∧ vm = .bool s.mv ∧ vl = .int .i64 lf ∧ (-(k : Int) ≤ lf ∧ lf ≤ 262144 ∧ (s.mv = true → lf = (s.now.n : Int) - (s.at_ : Int))) ∧ (Gr.Ki (fun x : Nat => x % 16) s M A B ∧ MK M ∧ M.length ≤ k) ∧ StG PG w (fun j => j = bm) wr p s ∧ RMap wr bm kvU (boolL M)) (fun _ _ vi _ => m - (intOf vi).toNat)
  case atStart => exact ⟨0, Gr.new 128, [], fun _ => false, fun _ => false, 0, Nat.zero_le _, rfl, rfl, rfl, ⟨by omega, by omega, fun e => (by cases e)⟩, ⟨Gr.ki_new, ⟨List.nodup_nil, fun _ h => (by cases h)⟩, Nat.le_refl _⟩, HS1.out, HM1.out⟩
  case round =>
    obtain ⟨k, s, M, A, B, lf, hk, rfl, rfl, rfl, hlf, hki, hst, hrm⟩ := hrel
    have HLF := Lib.hid hlf
    have HKI := Lib.hid hki.1
    have HMK := Lib.hid hki.2.1
    have HLEN := Lib.hid hki.2.2
    have HSr := Lib.hid hst
    have HRr := Lib.hid hrm
    clear hlf hki hst hrm HS1 HM1
    by_cases hkm : k < m
    · rcases HR.out with h0 | ⟨bA, off, rfl, hbl, hcl⟩
      · omega
      obtain ⟨x, hxe⟩ := Int.eq_ofNat_of_zero_le (HF.out k).1
      have hx : x < 256 := by have := (HF.out k).2; omega
      have HX := Lib.hid hx
      have z0 : wr.cell? ⟨bA, off + k, none⟩ = some (.int .u8 (x : Int)) := by
        rw [← hxe]
        exact (HSr.out.below.cell (p := ⟨bA, off + k, none⟩) hbl).trans (hcl k hkm)
      have i0 : (0 : Int) ≤ (k : Int) := by omega
      have i1 : (k : Int) < (m : Int) := by omega
      have i2 : ((k : Int)).toNat = k := by omega
      have zk : IntKind.i64.wrap ((k : Int) + 1) = (k : Int) + 1 := by rw [IntKind.wrap_i64]; omega
      have zx : IntKind.u64.wrap ((x : Int) % 16) = ((x % 16 : Nat) : Int) := by rw [IntKind.wrap_u64]; omega
      have zx2 : IntKind.u32.wrap (x : Int) = (x : Int) := by rw [IntKind.wrap_u32]; omega
      clear hbl hcl hxe
      go_upto_region 12 with fail
      try rw [show (x : Int) % 16 = ((x % 16 : Nat) : Int) by omega]
      have HS1 := Lib.hid (HSr.out.box HP.out.foot (.cells #[.int .u64 ((x % 16 : Nat) : Int), .int .u32 (x : Int)] 34))
      have HR1 := Lib.hid (HRr.out.step (below_alloc wr (.cells #[.int .u64 ((x % 16 : Nat) : Int), .int .u32 (x : Int)] 34)))
      have HO1 : Hid ((wr.alloc (.cells #[.int .u64 ((x % 16 : Nat) : Int), .int .u32 (x : Int)] 34)).heap[wr.heap.size]? = some (.cells #[.int .u64 ((x % 16 : Nat) : Int), .int .u32 (x : Int)] 34 (0, 0))) := Lib.hid (heap_alloc_new wr _)
      obtain ⟨b12, hb12⟩ : ∃ b, b = wr.heap.size := ⟨_, rfl⟩
      rw [← hb12] at HS1 HO1 ⊢
      clear hb12 z0 i0 i1 i2 zx zx2 HSr HRr HR
      generalize wr.alloc (.cells #[.int .u64 ((x % 16 : Nat) : Int), .int .u32 (x : Int)] 34) = v1 at *
      have o0 : v1.cell? ⟨b12, 0, none⟩ = some (.int .u64 ((x % 16 : Nat) : Int)) := blk_cell HO1.out 0
      have o1 : v1.cell? ⟨b12, 1, none⟩ = some (.int .u32 (x : Int)) := blk_cell HO1.out 1
      obtain ⟨hh, hhh⟩ : ∃ h, h = mlook x M := ⟨_, rfl⟩
      have hlook : (Instr.lookup 43 (.map (some bm)) (.int .u8 (x : Int)) false).run Try.prog v1 = .ok (.bool hh) v1 := (look_m HR1.out x).trans (by rw [hhh])
      have HHH := Lib.hid hhh
      clear hhh
      go_upto_if 49 with fail
      clear hlook
      go_cut [] from 37 to 123 (fun wx => ∃ (s2 : Gr) (M2 : List (Nat × Bool)) (A2 B2 : Nat → Bool), (Gr.Ki (fun x : Nat => x % 16) s2 M2 A2 B2 ∧ MK M2 ∧ M2.length ≤ k + 1) ∧ ((s.mv = true → s2.mv = true ∧ s2.at_ = s.at_ ∧ s2.now.n = s.now.n) ∧ (s.mv = false → s2.mv = true → s2.at_ = 0)) ∧ StG PG w (fun j => j = bm) wx p s2 ∧ RMap wx bm kvU (boolL M2))
      case rest =>
        clear HS1 HR1 HO1 o0 o1 HKI HMK HLEN HHH
        obtain ⟨s2, M2, A2, B2, hK, hrel2, hst, hrm⟩ := hcut
        have HKI2 := Lib.hid hK.1
        have HMK2 := Lib.hid hK.2.1
        have HLEN2 := Lib.hid hK.2.2
        have HS2 := Lib.hid hst
        have HR2 := Lib.hid hrm
        clear hK hst hrm
        generalize wc = v2 at *
        obtain ⟨mv2, hmv2⟩ : ∃ b, b = s2.mv := ⟨_, rfl⟩
        obtain ⟨n2, hn2⟩ : ∃ b, b = s2.now.n := ⟨_, rfl⟩
        obtain ⟨at2, hat2⟩ : ∃ b, b = s2.at_ := ⟨_, rfl⟩
        obtain ⟨pl, hpl⟩ : ∃ b, b = s2.places := ⟨_, rfl⟩
        obtain ⟨b0, hb0⟩ : ∃ b, b = s.mv := ⟨_, rfl⟩
        have HPLC : Hid ((mv2 = true → 0 < pl) ∧ (mv2 = false → pl = 0) ∧ n2 ≤ 262144) := Lib.hid ⟨fun e => by
            rw [hpl]
            unfold Gr.places
            rw [← hmv2, e, if_pos rfl]
            exact (HKI2.out.ok.next (by rw [← hmv2]; exact e)).pos, fun e => by
            rw [hpl]
            unfold Gr.places
            rw [← hmv2, e, if_neg Bool.false_ne_true], by rw [hn2]; exact HKI2.out.ok.now.top⟩
        have HREL : Hid ((b0 = true → mv2 = true ∧ lf = (n2 : Int) - (at2 : Int)) ∧ (b0 = false → mv2 = true → at2 = 0)) := Lib.hid ⟨fun e => by
            have h1 := hrel2.1 (hb0.symm.trans e)
            refine ⟨hmv2.trans h1.1, ?_⟩
            rw [hn2, hat2, h1.2.1, h1.2.2]
            exact HLF.out.2.2 (hb0.symm.trans e), fun e e' => by
            rw [hat2]
            exact hrel2.2 (hb0.symm.trans e) (hmv2.symm.trans e')⟩
        have HLB : Hid (-(k : Int) ≤ lf ∧ lf ≤ 262144) := Lib.hid ⟨HLF.out.1, HLF.out.2.1⟩
        have HMV2 := Lib.hid hmv2
        have HN2 := Lib.hid hn2
        have HA2 := Lib.hid hat2
        have HPL := Lib.hid (sread HS2.out fun F hF => HP.out.places hF HKI2.out.ok)
        rw [← hn2, ← hpl] at HPL
        rw [← hb0]
        clear hrel2 hmv2 hn2 hat2 hpl hb0 HLF
        go_upto_region 18 with (first
          | (go_at_call 19
             refine HPL.out.mono ?_
             rintro e v3 ⟨rfl, hb⟩
             have HS3 := Lib.hid (HS2.out.step HP.out.foot hb)
             have HR3 := Lib.hid (HR2.out.step hb)
             clear hb))
        clear HS2 HR2 HPL
        obtain ⟨cc, hcc⟩ : ∃ c : Bool, c = (!b0 && decide (0 < pl)) := ⟨_, rfl⟩
        have HCC := Lib.hid hcc
        clear hcc
        go_cut [72] from 37 to 123 (fun v72 wx => v72 = .bool cc ∧ wx = v3)
        case first =>
          cases b0 with
          | true =>
            go_wp2_with fail
            go_meet
            exact ⟨by rw [HCC.out]; rfl, rfl⟩
          | false =>
            by_cases c0 : 0 < pl
            · have c0' : 0 < (pl : Int) := by omega
              have HC0 := Lib.hid c0
              go_wp2_with fail
              go_meet
              exact ⟨by rw [HCC.out, decide_eq_true HC0.out]; rfl, rfl⟩
            · have c0' : ¬ 0 < (pl : Int) := by omega
              have HC0 := Lib.hid c0
              go_wp2_with fail
              go_meet
              exact ⟨by rw [HCC.out, decide_eq_false HC0.out]; rfl, rfl⟩
        case rest =>
          obtain ⟨rfl, rfl⟩ := hcut
          go_upto_if 72 with fail
          go_cut [8, 9] from 37 to 123 (fun vl vm wx => ∃ lf2 : Int, vl = .int .i64 lf2 ∧ vm = .bool mv2 ∧ (-(k : Int) ≤ lf2 ∧ lf2 ≤ 262144 ∧ (mv2 = true → lf2 = (n2 : Int) - (at2 : Int))) ∧ wx = wc)
          case first =>
            cases cc with
            | true =>
              have h := HCC.out
              have hb : b0 = false := by
                cases b0 with
                | false => rfl
                | true => cases h
              have hp : 0 < pl := by
                rw [hb] at h
                simpa using h
              have hm : mv2 = true := by
                cases e : mv2 with
                | true => rfl
                | false =>
                  have := HPLC.out.2.1 e
                  omega
              have HM := Lib.hid hm
              have HA := Lib.hid (HREL.out.2 hb hm)
              clear h hb hp hm
              go_wp2_with fail
              go_meet
              exact ⟨(n2 : Int), rfl, by rw [HM.out], ⟨by omega, by have := HPLC.out.2.2; omega, fun _ => by rw [HA.out]; simp⟩, rfl⟩
            | false =>
              have h := HCC.out
              have hm : mv2 = b0 := by
                cases b0 with
                | true => exact (HREL.out.1 rfl).1
                | false =>
                  have hp : ¬ 0 < pl := by simpa using h
                  cases e : mv2 with
                  | false => rfl
                  | true => exact absurd (HPLC.out.1 e) hp
              have HM := Lib.hid hm
              clear h hm
              go_wp2_with fail
              go_meet
              exact ⟨lf, rfl, by rw [HM.out], ⟨HLB.out.1, HLB.out.2, fun e => (HREL.out.1 (by rw [← HM.out]; exact e)).2⟩, rfl⟩
          case rest =>
            obtain ⟨lf2, rfl, rfl, hl3, rfl⟩ := hcut
            have HL3 := Lib.hid hl3
            clear hl3 HREL HLB HCC
            have k0 : (0 : Int) ≤ (k : Int) % 64 := by omega
            have k1 : (k : Int) % 64 ≤ 64 := by omega
            have k2 : ((k : Int) % 64).toNat = k % 64 := by omega
            obtain ⟨kk, hkk⟩ : ∃ j, j = k % 64 := ⟨_, rfl⟩
            rw [← hkk] at k2
            have zk64 : IntKind.i64.wrap ((k : Int) % 64) = (k : Int) % 64 := by rw [IntKind.wrap_i64]; omega
            have hsl : S >>> kk < 18446744073709551616 := Nat.lt_of_le_of_lt (by rw [Nat.shiftRight_eq_div_pow]; exact Nat.div_le_self _ _) HSS.out
            obtain ⟨y, hy⟩ : ∃ y, y = S >>> kk := ⟨_, rfl⟩
            have zs : (S : Int) / 2 ^ kk = (y : Int) := by rw [hy, Nat.shiftRight_eq_div_pow, Int.natCast_ediv, Int.natCast_pow]; rfl
            rw [← hy] at hsl
            have zb : bits .and .u64 (y : Int) 1 = ((y % 2 : Nat) : Int) := by
              have h := and_u64 (y : Int) 1 2 1 rfl rfl (by omega) (by omega) (by decide)
              rw [show ((1 : Nat) : Int) = 1 from rfl] at h
              rw [h]
              omega
            obtain ⟨z, hz⟩ : ∃ z, z = y % 2 := ⟨_, rfl⟩
            rw [← hz] at zb
            clear hy hz hkk
            go_upto_region 20 with fail
            go_cut [79] from 37 to 123 (fun v79 wx => ∃ bt : Bool, v79 = .bool bt ∧ wx = wc)
            case first =>
              go_wp2_with fail
              go_meet
              exact ⟨_, rfl, rfl⟩
            case rest =>
              obtain ⟨bt, rfl, rfl⟩ := hcut
              clear k0 k1 k2 zk64 hsl zs zb
              go_upto_if 79 with fail
              go_cut [8, 9, 15] from 37 to 123 (fun vl vm _ wx => ∃ (s3 : Gr) (A3 B3 : Nat → Bool) (lf3 : Int), vl = .int .i64 lf3 ∧ vm = .bool s3.mv ∧ (-((k : Int) + 1) ≤ lf3 ∧ lf3 ≤ 262144 ∧ (s3.mv = true → lf3 = (s3.now.n : Int) - (s3.at_ : Int))) ∧ Gr.Ki (fun x : Nat => x % 16) s3 M2 A3 B3 ∧ StG PG w (fun j => j = bm) wx p s3 ∧ RMap wx bm kvU (boolL M2))
              case first =>
                cases bt with
                | false =>
                  go_wp2_with fail
                  go_meet
                  exact ⟨s2, A2, B2, lf2, rfl, by rw [HMV2.out], ⟨by have := HL3.out.1; omega, HL3.out.2.1, by rw [← HMV2.out, ← HN2.out, ← HA2.out]; exact HL3.out.2.2⟩, HKI2.out, HS3.out, HR3.out⟩
                | true =>
                  have HSC := Lib.hid (Gr.st_cur HKI2.out.ok)
                  obtain ⟨A3, B3, hk3⟩ := HKI2.out.st_ (fun x hx => by show x % 16 < _; omega)
                  have HK3 := Lib.hid hk3
                  have hl3 := HL3.out
                  have zl : IntKind.i64.wrap (lf2 - 1) = lf2 - 1 := by rw [IntKind.wrap_i64]; omega
                  have hstep : (mv2 = false ∧ s2.st.mv = false) ∨ (mv2 = true ∧ lf2 - 1 = 0 ∧ s2.st.mv = false) ∨ (mv2 = true ∧ 0 < lf2 - 1 ∧ s2.st.mv = true ∧ lf2 - 1 = (s2.st.now.n : Int) - (s2.st.at_ : Int)) := by
                    have h1 := HSC.out
                    have h2 := HN2.out
                    have h3 := HA2.out
                    rw [← HMV2.out, ← h2, ← h3] at h1
                    cases mv2 with
                    | false => exact .inl ⟨rfl, h1.1 rfl⟩
                    | true =>
                      have h4 := hl3.2.2 rfl
                      rcases h1.2 rfl with ⟨q1, q2⟩ | ⟨q1, q2, q3, q4⟩
                      · exact .inr (.inl ⟨rfl, by omega, q2⟩)
                      · exact .inr (.inr ⟨rfl, by omega, q2, by rw [q3, q4]; omega⟩)
                  have hl9 : -((k : Int) + 1) ≤ lf2 - 1 ∧ lf2 - 1 ≤ 262144 := by omega
                  have HL9 := Lib.hid hl9
                  clear hk3 hl3 hl9
                  rcases hstep with ⟨rfl, hm⟩ | ⟨rfl, hz, hm⟩ | ⟨rfl, hz, hm, hq⟩
                  · have HM := Lib.hid hm
                    clear hm
                    go_wp2_with (first
                      | (go_at_call 14
                         refine (HS3.out.call fun G hG => HP.out.step hG HKI2.out.ok).mono ?_
                         rintro e v5 ⟨rfl, hst, hx⟩
                         rw [HM.out]
                         have HS5 := Lib.hid hst
                         have HR5 := Lib.hid (HR3.out.block (hx bm rfl))
                         clear hst hx))
                    go_meet
                    exact ⟨s2.st, A3, B3, lf2 - 1, rfl, by rw [HM.out], ⟨HL9.out.1, HL9.out.2, fun e => absurd e (by rw [HM.out]; exact Bool.false_ne_true)⟩, HK3.out, HS5.out, HR5.out⟩
                  · have HM := Lib.hid hm
                    have hz1 : ¬ 0 < lf2 - 1 := by omega
                    clear hm hz
                    go_wp2_with (first
                      | (go_at_call 14
                         refine (HS3.out.call fun G hG => HP.out.step hG HKI2.out.ok).mono ?_
                         rintro e v5 ⟨rfl, hst, hx⟩
                         rw [HM.out]
                         have HS5 := Lib.hid hst
                         have HR5 := Lib.hid (HR3.out.block (hx bm rfl))
                         clear hst hx))
                    go_meet
                    exact ⟨s2.st, A3, B3, lf2 - 1, rfl, by rw [HM.out], ⟨HL9.out.1, HL9.out.2, fun e => absurd e (by rw [HM.out]; exact Bool.false_ne_true)⟩, HK3.out, HS5.out, HR5.out⟩
                  · have HM := Lib.hid hm
                    have HQ := Lib.hid hq
                    clear hm hq
                    go_wp2_with (first
                      | (go_at_call 14
                         refine (HS3.out.call fun G hG => HP.out.step hG HKI2.out.ok).mono ?_
                         rintro e v5 ⟨rfl, hst, hx⟩
                         rw [HM.out]
                         have HS5 := Lib.hid hst
                         have HR5 := Lib.hid (HR3.out.block (hx bm rfl))
                         clear hst hx))
                    go_meet
                    exact ⟨s2.st, A3, B3, lf2 - 1, rfl, by rw [HM.out], ⟨HL9.out.1, HL9.out.2, fun _ => HQ.out⟩, HK3.out, HS5.out, HR5.out⟩
              case rest =>
                obtain ⟨s3, A3, B3, lf3, rfl, rfl, hl4, hk4, hs4, hr4⟩ := hcut
                have HL4 := Lib.hid hl4
                have HK4 := Lib.hid hk4
                have HS4 := Lib.hid hs4
                have HR4 := Lib.hid hr4
                clear hl4 hk4 hs4 hr4 HKI2 HL3 HPLC HMV2 HN2 HA2
                generalize wc = v4 at *
                clear HS3 HR3
                obtain ⟨w1, hrun, hit, hb⟩ := HR4.out.range (P := Try.prog) Try.underlying43
                have HIT := Lib.hid hit
                have HB := Lib.hid hb
                have HRL := Lib.hid hit.lt.2
                obtain ⟨TT, hT⟩ : ∃ T, T = trues M2 := ⟨_, rfl⟩
                have HT := Lib.hid hT
                have hTl : TT ≤ 1000 := by rw [hT]; exact Nat.le_trans (trues_le M2) (by have := HLEN2.out; omega)
                have HHA : Hid (∀ W, Below v4.heap.size v4 W → ∀ y : Nat, y < 256 → Calls Try.prog 20 #[.pointer (some ⟨p, 0, none⟩), .agg #[.int .u64 ((y % 16 : Nat) : Int), .int .u32 (y : Int)]] W (ret (.bool (mlook y M2)) W)) := Lib.hid fun W hW y hy => by
                  obtain ⟨F4, hF4, _⟩ := HS4.out.step HP.out.foot hW
                  have h := has_any HP.out hF4 HK4.out.ok (y % 16) y (by omega)
                  rwa [show s3.has (y % 16) y = mlook y M2 from HK4.out.has_ y] at h
                have HEN : Hid (∀ W, Below v4.heap.size v4 W → Calls Try.prog 21 #[.pointer (some ⟨p, 0, none⟩)] W (ret (.int .i64 (TT : Int)) W)) := Lib.hid fun W hW => by
                  obtain ⟨F4, hF4, _⟩ := HS4.out.step HP.out.foot hW
                  have h := HP.out.entries hF4 HK4.out.ok
                  rwa [← HK4.out.cnt, ← HT.out] at h
                obtain ⟨r, hr⟩ : ∃ r, r = v4.heap.size := ⟨_, rfl⟩
                have HRR := Lib.hid hr
                rw [← hr] at hrun HIT HRL
                clear hit hb hT hr
                go_upto_region 28 with fail
                clear hrun
                go_loopw [16] (fun vn wr => ∃ (left : List (Nat × Bool)) (n : Nat), vn = .int .i64 (n : Int) ∧ RIt wr bm r kvU (boolL M2) (boolL left) ∧ (∀ q ∈ left, q ∈ M2) ∧ n + trues left = TT ∧ Below v4.heap.size v4 wr) (fun _ wr => wr.rangeLeft bm r)
                case atStart => exact ⟨M2, 0, rfl, HIT.out, fun _ h => h, by rw [Nat.zero_add]; exact HT.out.symm, HB.out⟩
                case round =>
                  obtain ⟨left, n, rfl, hit, hsub, hn, hb⟩ := hrel
                  have HSUB := Lib.hid hsub
                  have HB1 := Lib.hid hb
                  have HL := Lib.hid hit.left
                  rcases hit.next (P := Try.prog) with ⟨hnil, hnx⟩ | ⟨A0, x0, C0, hsp, w2, hnx, hit2, hk, hsz, hen⟩
                  · have hl0 : left = [] := by
                      cases left with
                      | nil => rfl
                      | cons p q => cases hnil
                    have HNT : Hid (n = TT) := Lib.hid (by rw [hl0] at hn; exact hn)
                    have hnx1 := hnx
                    have hnt : ((TT : Int) != (n : Int)) = false := by rw [HNT.out]; simp
                    clear hit hnil hnx hl0 hn hsub hb
                    go_wp2_with (first
                      | (go_at_call 21
                         refine (HEN.out _ HB1.out).mono ?_
                         rintro e u9 ⟨rfl, hb⟩
                         have HB9 := Lib.hid (HB1.out.trans (hb.mono HB1.out.size))
                         clear hb))
                    go_roundw
                    case rel => exact ⟨k + 1, s3, M2, A3, B3, lf3, by omega, by go_num, rfl, rfl, (by have := HL4.out; exact ⟨by omega, this.2.1, this.2.2⟩), ⟨HK4.out, HMK2.out, HLEN2.out⟩, HS4.out.step HP.out.foot HB9.out, HR4.out.step HB9.out⟩
                    case measure => simp [intOf]; omega
                  · obtain ⟨A', y, vv, C', q1, rfl, rfl, rfl⟩ := boolL_split hsp
                    rw [boolL_app] at hit2
                    have HIT2 := Lib.hid hit2
                    have hts := trues_split y vv C' A'
                    rw [← q1] at hts
                    have HLT : Hid ((boolL (A' ++ C')).length < (boolL left).length) := Lib.hid (by rw [q1]; simp [boolL])
                    have hmem : (y, vv) ∈ M2 := hsub _ (by rw [q1]; simp)
                    have hy : y < 256 := HMK2.out.2 _ hmem
                    have HLK := Lib.hid (mk_look HMK2.out.1 hmem)
                    have HSUB2 : Hid (∀ q ∈ A' ++ C', q ∈ M2) := Lib.hid fun q hq => hsub q (by rw [q1]; simp at hq ⊢; rcases hq with h | h; exact .inl h; exact .inr (.inr h))
                    have hb2 : Below v4.heap.size v4 w2 := hb.trans (hk.below (by have := hb.size; omega) fun k e => by rw [e, HRR.out]; exact Nat.le_refl _)
                    have HB2 := Lib.hid hb2
                    have HHY := Lib.hid (HHA.out w2 hb2 y hy)
                    rw [HLK.out] at HHY
                    have zy : IntKind.u64.wrap ((y : Int) % 16) = ((y % 16 : Nat) : Int) := by rw [IntKind.wrap_u64]; omega
                    have zy2 : IntKind.u32.wrap (y : Int) = (y : Int) := by rw [IntKind.wrap_u32]; omega
                    have zy3 : IntKind.u8.wrap ((y : Int) % 16) = ((y : Int) % 16) := by rw [IntKind.wrap_u8]; omega
                    clear hit hit2 hk hsz hsp q1 hb hb2 hmem hsub
                    unfold kvU at hnx hen
                    dsimp only at hnx hen
                    cases vv with
                    | true =>
                      have hn2 : n + 1 + trues (A' ++ C') = TT := by
                        have hts : trues left = trues (A' ++ C') + 1 := hts
                        omega
                      have HN2 := Lib.hid hn2
                      have hn9 : n ≤ 1000 := by omega
                      have zn : IntKind.i64.wrap ((n : Int) + 1) = (n : Int) + 1 := by rw [IntKind.wrap_i64]; omega
                      clear hts hn hn2
                      go_wp2_with (first
                        | (go_at_call 20
                           refine HHY.out.mono ?_
                           rintro e u9 ⟨rfl, hb⟩
                           have HB9 := Lib.hid (HB2.out.trans (hb.mono HB2.out.size))
                           have HI9 := Lib.hid (HIT2.out.step hb)
                           clear hb))
                      go_roundw
                      case rel => exact ⟨A' ++ C', n + 1, by go_num, HI9.out, HSUB2.out, HN2.out, HB9.out⟩
                      case measure => rw [HI9.out.left, HL.out]; exact HLT.out
                    | false =>
                      have hn2 : n + trues (A' ++ C') = TT := by
                        have hts : trues left = trues (A' ++ C') + 0 := hts
                        omega
                      have HN2 := Lib.hid hn2
                      clear hts hn hn2
                      go_wp2_with (first
                        | (go_at_call 20
                           refine HHY.out.mono ?_
                           rintro e u9 ⟨rfl, hb⟩
                           have HB9 := Lib.hid (HB2.out.trans (hb.mono HB2.out.size))
                           have HI9 := Lib.hid (HIT2.out.step hb)
                           clear hb))
                      go_roundw
                      case rel => exact ⟨A' ++ C', n, rfl, HI9.out, HSUB2.out, HN2.out, HB9.out⟩
                      case measure => rw [HI9.out.left, HL.out]; exact HLT.out

      cases hh with
      | true =>
        have hml : mlook x M = true := HHH.out.symm
        obtain ⟨hd0, A2, B2, hki2⟩ := HKI.out.drop_ hml
        have HD0 : Hid (s.drE (x % 16) x = 0) := Lib.hid hd0
        have HK2 : Hid (Gr.Ki (fun x : Nat => x % 16) (s.dr (x % 16) x) (mput x false M) A2 B2) := Lib.hid hki2
        have HDC := Lib.hid (Gr.dr_cur (s := s) (x % 16) x)
        clear hd0 hki2 hml
        go_upto_region 15 with (first
          | (go_at_call 12
             refine (HS1.out.call fun G hG => HP.out.drop hG HKI.out.ok (x % 16) x (by omega) (by omega)).mono ?_
             rintro e v3 ⟨rfl, hst, hx⟩
             rw [HD0.out] at *
             have HS3 := Lib.hid hst
             have HR3 := Lib.hid (HR1.out.block (hx bm (.inl rfl)))
             clear hst hx))
        clear o0 o1 HS1 HR1 HO1
        obtain ⟨w7, hput, hr7, hk7, hz7⟩ := HR3.out.put (P := Try.prog) Try.underlying43 keyU x (.bool false)
        rw [boolL_put] at hr7
        have hput : (Instr.mapUpdate 43 (.map (some bm)) (.int .u8 (x : Int)) (.bool false)).run Try.prog v3 = .ok () w7 := hput
        have HR7 := Lib.hid hr7
        have HS7 := Lib.hid ((HS3.out.turn HP.out.foot hk7 fun k e => ⟨.inl e, by rw [e]; exact HBW.out⟩).less (Y := fun k => k = bm) fun k e => .inl e)
        clear hr7 hk7 hz7
        go_wp2_with fail
        go_meet
        exact ⟨s.dr (x % 16) x, mput x false M, A2, B2, ⟨HK2.out, mk_put HMK.out HX.out, Nat.le_trans (mput_len _ _ _) (by have := HLEN.out; omega)⟩, ⟨fun e => ⟨HDC.out.1.trans e, HDC.out.2⟩, fun e e' => absurd (HDC.out.1.symm.trans e') (by rw [e]; exact Bool.false_ne_true)⟩, HS7.out, HR7.out⟩
      | false =>
        have hml : mlook x M = false := HHH.out.symm
        obtain ⟨hd0, A2, B2, hki2⟩ := HKI.out.put_ HX.out (by show x % 16 < _; omega) hml
        have hki2 : Gr.Ki (fun x : Nat => x % 16) (s.pt (x % 16) x) (mput x (decide (s.ptE (x % 16) = 0)) M) A2 B2 := hki2
        have hd0 : s.ptE (x % 16) = 0 ∨ s.ptE (x % 16) = 9 := hd0
        have HPC := Lib.hid (Gr.pt_cur (s := s) (x % 16) x)
        obtain ⟨EE, hEE⟩ : ∃ E, E = s.ptE (x % 16) := ⟨_, rfl⟩
        rw [← hEE] at hki2 hd0
        have HEE := Lib.hid hEE
        have HD0 := Lib.hid hd0
        obtain ⟨bb, hbb⟩ : ∃ b : Bool, b = decide (EE = 0) := ⟨_, rfl⟩
        have hbe : (EE == 0) = bb := by
          rw [hbb]
          rcases HD0.out with e | e <;> rw [e] <;> rfl
        rw [← hbb] at hki2
        have HK2 := Lib.hid hki2
        clear hbb hd0 hki2 hml hEE
        go_wp2_with (first
          | (go_at_call 10
             refine (HS1.out.call fun G hG => HP.out.put hG HKI.out.ok (x % 16) x (by omega) (by omega)).mono ?_
             rintro e v3 ⟨rfl, hst, hx⟩
             rw [← HEE.out]
             have HS3 := Lib.hid hst
             have HR3 := Lib.hid (HR1.out.block (hx bm (.inl rfl)))
             clear hst hx o0 o1
             obtain ⟨w7, hput, hr7, hk7, hz7⟩ := HR3.out.put (P := Try.prog) Try.underlying43 keyU x (.bool bb)
             rw [boolL_put] at hr7
             have hput : (Instr.mapUpdate 43 (.map (some bm)) (.int .u8 (x : Int)) (.bool bb)).run Try.prog v3 = .ok () w7 := hput
             have HR7 := Lib.hid hr7
             have HS7 := Lib.hid ((HS3.out.turn HP.out.foot hk7 fun k e => ⟨.inl e, by rw [e]; exact HBW.out⟩).less (Y := fun k => k = bm) fun k e => .inl e)
             clear hr7 hk7 hz7
             skip))
        go_meet
        exact ⟨s.pt (x % 16) x, mput x bb M, A2, B2, ⟨HK2.out, mk_put HMK.out HX.out, Nat.le_trans (mput_len _ _ _) (by have := HLEN.out; omega)⟩, HPC.out, HS7.out, HR7.out⟩
    · obtain rfl : m = k := by omega
      have i1 : ¬ (m : Int) < (m : Int) := by omega
      have HKN := Lib.hid (gknown_any HP.out wr)
      have HBr := Lib.hid HSr.out.below
      go_wp2_with (first
        | (go_at_call 6
           refine HKN.out.mono ?_
           rintro e v6 ⟨rfl, hb⟩
           have HB6 := Lib.hid hb
           clear hb))
      go_ret
      exact ⟨rfl, HBr.out.trans (HB6.out.mono HBr.out.size)⟩
end
end Go.Proofs.Ythjghofjdcepmaa
