/- Ip6Packets, walked. -/
import Derived.Test.YtankpbehahopgaaI6bk
namespace Go.Proofs.Ytankpbehahopgaa
open Go.RowKit
/-- Bytes of the call's own, whichever. -/
def Kp (W : World) (B : Nat) (A : Option Addr) (n c : Nat) : Prop := ∃ f, Byt f ∧ Own W B 5 A n c f
theorem Kp.below {W W' : World} {B : Nat} {A : Option Addr} {n c : Nat} (h : Kp W B A n c) (hb : Below W.heap.size W W') : Kp W' B A n c := by
  obtain ⟨f, hf, ho⟩ := h
  exact ⟨f, hf, ho.below hb⟩
theorem Kp.set {W : World} {B : Nat} {A : Option Addr} {n c : Nat} (h : Kp W B A n c) (g i : Nat) (v : Int) (hv : 0 ≤ v ∧ v ≤ 255) : Kp (W.setCell ⟨g, i, none⟩ (.int .u8 v)) B A n c := by
  obtain ⟨f, hf, ho⟩ := h
  have ho' := ho
  rcases ho.2 with hh | ⟨g', cap, cur, hv', hg, hh, r⟩
  · exact ⟨f, hf, ho.1, .inl hh⟩
  · by_cases e : g' = g
    · subst e
      injection hv' with h1 h2 h3
      subst h1
      exact ⟨_, upd_byt hf i hv, ho'.set_ i v⟩
    · exact ⟨f, hf, ho.1, .inr ⟨g', cap, cur, hv', hg, (Below.heap_setCell W ⟨g, i, none⟩ _ g' e).trans hh, r⟩⟩
theorem Own.ne {W : World} {B g n c q : Nat} {f : Nat → Int} {cs : Array Value} {fr : Nat × Nat} (h : Own W B 5 (some ⟨g, 0, none⟩) n c f) (hq : W.heap[q]? = some (.cells cs 26 fr)) : q ≠ g := by
  rintro rfl
  rcases h.2 with ⟨hh, _⟩ | ⟨g', cap, cur, hv, _, hh, _⟩
  · cases hh
  · injection hv with h1 _ _
    injection h1 with h1
    injection h1 with h1
    subst h1
    rw [hq] at hh
    injection hh with hh
    injection hh with _ hh
    exact absurd hh (by decide)
/-- What Read tells, in one form. -/
theorem read6_common {f : Nat → Int} (hf : Byt f) (n : Nat) (hn : n ≤ 4000) : ∃ (C L N P H : Int) (s d : Nat → Int) (on : Nat) (fo : Nat → Int) (pn : Nat) (fp : Nat → Int), Byt fo ∧ Byt fp ∧ pn ≤ 65535 ∧ on ≤ 65535 ∧ ∀ w e w', Read6P 5 (rd6E f n) f w e w' →
    ∃ O co Q cp, e = .returned (.tuple #[.agg (ip6c C L N P H s d (.slice O on co)), .slice Q pn cp, .int .i64 (rd6E f n)]) ∧ Own w' w.heap.size 5 O on co fo ∧ Own w' w.heap.size 5 Q pn cp fp ∧ Below w.heap.size w w' := by
  by_cases h : rd6E f n = 0
  · obtain ⟨_, _, _, p, m, hc, hm⟩ := rd6_ok h
    have hl := ln6_le hf
    refine ⟨cls6 f, lab6 f, f 6, p, f 7, fun k => f (8 + k), fun k => f (24 + k), m, fun k => f (40 + k), ln6 f - m, fun k => f (40 + (m + k)), fun _ => hf _, fun _ => hf _, by omega, by omega, fun w e w' hq => ?_⟩
    rcases hq with ⟨h', _⟩ | ⟨_, p', m', O, co, Q, cp, hc', he, h1, h2, _, hb⟩
    · exact absurd h h'
    · rw [hc] at hc'
      injection hc' with e1 e2
      injection e2 with e2 _
      subst e1 e2
      exact ⟨O, co, Q, cp, by rw [he, h], h1, h2, hb⟩
  · refine ⟨0, 0, 0, 0, 0, fun _ => 0, fun _ => 0, 0, fun _ => 0, 0, fun _ => 0, zer_byt, zer_byt, by omega, by omega, fun w e w' hq => ?_⟩
    rcases hq with ⟨_, he, hb⟩ | ⟨h', _⟩
    · exact ⟨none, 0, none, 0, he, Own.nil_ _ _ _ _, Own.nil_ _ _ _ _, hb⟩
    · exact absurd h' h
/-- What Write tells, in one form. -/
theorem write6_common (ok : Bool) (m : Nat) (g : Nat → Int) : ∃ (mu : Nat) (X : Int) (gu : Nat → Int), mu ≤ 1660 ∧ ∀ base w e w', Wr6 base 5 ok m g w e w' → ∃ U cu, e = .returned (.tuple #[.slice U mu cu, .int .i64 X]) ∧ Own w' base 5 U mu cu gu ∧ Below base w w' := by
  cases ok with
  | false =>
    refine ⟨0, 2, fun _ => 0, by omega, fun base w e w' hq => ?_⟩
    rcases hq with ⟨_, U, cu, he, hu, hb⟩ | ⟨h, _⟩ | ⟨h, _⟩
    · exact ⟨U, cu, he, hu, hb⟩
    · cases h
    · cases h
  | true =>
    by_cases hl : 1660 < m
    · refine ⟨0, 3, fun _ => 0, by omega, fun base w e w' hq => ?_⟩
      rcases hq with ⟨h, _⟩ | ⟨_, _, U, cu, he, hu, hb⟩ | ⟨_, h, _⟩
      · cases h
      · exact ⟨U, cu, he, hu, hb⟩
      · omega
    · refine ⟨m, 0, g, by omega, fun base w e w' hq => ?_⟩
      rcases hq with ⟨h, _⟩ | ⟨_, h, _⟩ | ⟨_, _, U, cu, he, hu, hb⟩
      · cases h
      · omega
      · exact ⟨U, cu, he, hu, hb⟩
set_option maxRecDepth 100000 in
set_option maxHeartbeats 4000000 in
theorem packets6_any (cls lab next proto hops : Int) (s d : Nat → Int) (O : Option Addr) (on co : Nat) (fo : Nat → Int) (A : Option Addr) (n c : Nat) (f : Nat → Int) (nx : Int)
    (h1 : 0 ≤ cls ∧ cls ≤ 255) (h2 : 0 ≤ lab ∧ lab ≤ 4294967295) (h3 : 0 ≤ next ∧ next ≤ 255) (hnx : 0 ≤ nx ∧ nx ≤ 255) (hfo : Byt fo) (hf : Byt f) (hon : on ≤ 4000) (hoc : on ≤ co) (hco : co ≤ 9223372036854775807) (hn : n ≤ 4000) (hcap : n ≤ c) (hc9 : c ≤ 9223372036854775807)
    (w : World) (hro : Rd w w.heap.size O on fo) (hr : Rd w w.heap.size A n f) :
    Calls Try.prog 3 #[.agg (ip6c cls lab next proto hops s d (.slice O on co)), .slice A n c, .int .u8 nx] w fun e w' => e = .returned (.bool true) ∧ Below w.heap.size w w' := by
  obtain ⟨i0, hi0, hz0, hz1, hz2⟩ := info_parts Try.info5
  have HI0 := Lib.hid hi0
  have HZ0 := Lib.hid hz0
  have HZ1 := Lib.hid hz1
  have HZ2 := Lib.hid hz2
  clear hi0 hz0 hz1 hz2
  have hE1 : (w.alloc (.cells (ip6c cls lab next proto hops s d (.slice O on co)) 26)).heap[w.heap.size]? = some (.cells (ip6c cls lab next proto hops s d (.slice O on co)) 26 (0, 0)) := heap_alloc_new w _
  have ho37 : (w.alloc (.cells (ip6c cls lab next proto hops s d (.slice O on co)) 26)).cell? ⟨w.heap.size, 37, none⟩ = some (.slice O on co) := blk_cell hE1 37
  have HE1 := Lib.hid hE1
  have HB1 := Lib.hid (below_alloc w (.cells (ip6c cls lab next proto hops s d (.slice O on co)) 26))
  clear hE1
  have KN := Lib.hid known_any
  obtain ⟨mu, X, gu, hmu, hwc⟩ := write6_common (ok6 lab next proto on fo) (40 + (on + n)) (cat (40 + on) (cat 40 (hdr6 cls lab next hops s d (on + n)) fo) f)
  have HW : Hid (∀ A' c' W, Rd W W.heap.size O on fo → Rd W W.heap.size A' n f → Calls Try.prog 10 #[.agg (ip6c cls lab next proto hops s d (.slice O on co)), .slice A' n c'] W fun e w' => ∃ U cu, e = .returned (.tuple #[.slice U mu cu, .int .i64 X]) ∧ Own w' W.heap.size 5 U mu cu gu ∧ Below W.heap.size W w') := fun A' c' W ho hr =>
    (write6_any cls lab next proto hops s d O on co fo A' n c' f h1 h2 h3 hfo hon hn hoc hco W ho hr).mono fun e w' hq => hwc _ _ _ _ hq
  have HRW : Hid (∀ A' c' W, Rd W W.heap.size O on fo → Rd W W.heap.size A' n f → Calls Try.prog 11 #[.agg (ip6c cls lab next proto hops s d (.slice O on co)), .slice A' n c'] W fun e w' => ∃ U cu, e = .returned (.tuple #[.slice U mu cu, .int .i64 X]) ∧ Own w' W.heap.size 5 U mu cu gu ∧ Below W.heap.size W w') := fun A' c' W ho hr =>
    (rwrite6_any cls lab next proto hops s d O on co fo A' n c' f h1 h2 h3 hfo hon hn hoc hco W ho hr).mono fun e w' hq => hwc _ _ _ _ hq
  obtain ⟨C, L, NN, PP, H, s1, d1, on1, fo1, pn, fp, hfo1, hfp, hpn, hon1, hrc⟩ := read6_common hf n hn
  obtain ⟨E, hE⟩ : ∃ E, E = rd6E f n := ⟨_, rfl⟩
  have HRD : Hid (∀ A' c' W, n ≤ c' → c' ≤ 9223372036854775807 → Rd W W.heap.size A' n f → Calls Try.prog 7 #[.slice A' n c'] W fun e w' => ∃ O co P cp, e = .returned (.tuple #[.agg (ip6c C L NN PP H s1 d1 (.slice O on1 co)), .slice P pn cp, .int .i64 E]) ∧ Own w' W.heap.size 5 O on1 co fo1 ∧ Own w' W.heap.size 5 P pn cp fp ∧ Below W.heap.size W w') := fun A' c' W hc hc9 hr => by
    rw [hE]
    exact (read6_any A' n c' f hf (by omega) hc hc9 W hr).mono fun e w' hq => hrc _ _ _ hq
  have HRRD : Hid (∀ A' c' W, n ≤ c' → c' ≤ 9223372036854775807 → Rd W W.heap.size A' n f → Calls Try.prog 8 #[.slice A' n c'] W fun e w' => ∃ O co P cp, e = .returned (.tuple #[.agg (ip6c C L NN PP H s1 d1 (.slice O on1 co)), .slice P pn cp, .int .i64 E]) ∧ Own w' W.heap.size 5 O on1 co fo1 ∧ Own w' W.heap.size 5 P pn cp fp ∧ Below W.heap.size W w') := fun A' c' W hc hc9 hr => by
    rw [hE]
    exact (rread6_any A' n c' f hf (by omega) hc hc9 W hr).mono fun e w' hq => hrc _ _ _ hq
  have HSM : Hid (∀ O1 O2 c1 c2 W, Rd W W.heap.size O1 on1 fo1 → Rd W W.heap.size O2 on1 fo1 → Calls Try.prog 9 #[.agg (ip6c C L NN PP H s1 d1 (.slice O1 on1 c1)), .agg (ip6c C L NN PP H s1 d1 (.slice O2 on1 c2))] W fun e w' => e = .returned (.bool true) ∧ Below W.heap.size W w') := fun O1 O2 c1 c2 W ha hb => rsame_any C L NN PP H s1 d1 O1 O2 on1 c1 c2 fo1 W ha hb
  obtain ⟨RC, hRC⟩ : ∃ RC, RC = chn f n 8 nx 0 := ⟨_, rfl⟩
  have HC1 : Hid (∀ A' c' W, n ≤ c' → c' ≤ 9223372036854775807 → Rd W W.heap.size A' n f → Calls Try.prog 12 #[.int .u8 nx, .slice A' n c'] W (ChOut RC W)) := fun A' c' W hc hc9 hr => by
    rw [hRC]
    exact chain_any nx hnx A' n c' f hf (by omega) hc hc9 W hr
  have HC2 : Hid (∀ A' c' W, n ≤ c' → c' ≤ 9223372036854775807 → Rd W W.heap.size A' n f → Calls Try.prog 13 #[.int .u8 nx, .slice A' n c'] W (ChOut RC W)) := fun A' c' W hc hc9 hr => by
    rw [hRC]
    exact rchain_any nx hnx A' n c' f hf (by omega) hc hc9 W hr
  have HRO := Lib.hid hro
  have HR := Lib.hid hr
  have HFP := Lib.hid hfp
  have HFO1 := Lib.hid hfo1
  clear hfo hf hro hr h1 h2 h3 hnx hwc hrc hE hRC hfp hfo1
  obtain ⟨rc1, rc2, rc3⟩ := RC
  have g1 : ¬ (4000 : Int) < (n : Int) := by omega
  have g3 : ¬ (4000 : Int) < (on : Int) := by omega
  go_enter Try.func3, Try.ntmps3
  go_upto_if 34 with fail
  clear ho37
  generalize w.alloc (.cells (ip6c cls lab next proto hops s d (.slice O on co)) 26) = w1 at *
  have HO0 : Hid (Own (w1.alloc (.cells #[] 5)) w1.heap.size 5 (some ⟨w1.heap.size, 0, none⟩) 0 0 (fun _ => 0)) := Own.fresh w1 _ _ rfl (Nat.le_refl _) _ _
  have B10 : Hid (Below w1.heap.size w1 (w1.alloc (.cells #[] 5))) := below_alloc w1 _
  go_wp2_with (first
    | (at_builtin
       refine wpList_append_rd rfl (.tmp 36) (.tmp 37) _ rfl w1.heap.size 5 i0 Try.underlying24 HI0.out HZ0.out HZ1.out HZ2.out rfl HO0.out rfl (HR.out.keep (HB1.out.trans (B10.out.mono HB1.out.size))) (by omega) (alloc_le w1 _) ?_
       intro A2 c2 w2 hown2 hg2 _
       rw [Nat.zero_add] at hown2
       have HO2 : Hid (Own w2 w1.heap.size 5 A2 n c2 f) := hown2.same fun k _ => by simp [cat]
       have B12 : Hid (Below w1.heap.size w1 w2) := B10.out.grown hg2 B10.out.size (fun k hk => HO0.out.at_ k hk)
       clear hown2 hg2))
  have HB2 : Hid (Below w.heap.size w w2) := HB1.out.trans (B12.out.mono HB1.out.size)
  have HE2 := Lib.hid ((B12.out.block _ (lt_heap HE1.out)).trans HE1.out)
  have HIN : Hid (Rd w2 w2.heap.size A2 n f) := HO2.out.rd
  have hc2 := HO2.out.cap
  have hc29 := HO2.out.cap_le
  clear HO0 B10 B12 HE1 HB1 HO2
  go_at_call 7
  refine (HRD.out A2 c2 w2 hc2 hc29 HIN.out).mono ?_
  rintro e w3 ⟨O1, co1, P1, cp1, rfl, ho1, hp1, hb3⟩
  obtain ⟨CS, hCS⟩ : ∃ CS, CS = ip6c C L NN PP H s1 d1 (.slice O1 on1 co1) := ⟨_, rfl⟩
  have HCS := Lib.hid hCS
  have H1 : Hid (CS.all (·.oneCell') = true) := by rw [hCS]; exact ip6_one ..
  have HSZ : Hid (CS.size = 38) := by rw [hCS]; rfl
  have H37 : Hid (CS[37]? = some (.slice O1 on1 co1)) := by rw [hCS]; rfl
  have hi38 := Lib.hid (show (Try.prog.info? 26).map (·.size) = some 38 by kernel_rfl)
  rw [← hCS]
  have HN : Hid ((w3.alloc (.cells ip6z 26)).heap[w3.heap.size]? = some (.cells ip6z 26 (0, 0))) := heap_alloc_new w3 _
  have HT4 : Hid (((w3.alloc (.cells ip6z 26)).setRow w3.heap.size CS).heap[w3.heap.size]? = some (.cells CS 26 (0, 0))) := setRow_heap _ _ _ CS _ _ HN.out
  have B34 : Hid (Below w3.heap.size w3 ((w3.alloc (.cells ip6z 26)).setRow w3.heap.size CS)) := below_setRow (below_alloc w3 _) (Nat.le_refl _) CS
  have HO1 := Lib.hid (ho1.below B34.out)
  have HP1 := Lib.hid (hp1.below B34.out)
  have B24 : Hid (Below w2.heap.size w2 ((w3.alloc (.cells ip6z 26)).setRow w3.heap.size CS)) := hb3.trans (B34.out.mono hb3.size)
  obtain ⟨Q6, hQ6⟩ : ∃ q, q = w3.heap.size := ⟨_, rfl⟩
  have HQ6 := Lib.hid hQ6
  clear hCS ho1 hp1 hb3 hQ6
  go_upto_region 5 with (first
    | (refine wpList_store_row rfl 26 (.tmp 8) (.tmp 42) rfl w3.heap.size CS rfl rfl 26 ip6z HN.out (hi38.out.trans (by rw [HSZ.out])) (by rw [HSZ.out]; rfl) H1.out ?_))
  change Code.wp _ _ _ _ ((w3.alloc (.cells ip6z 26)).setRow w3.heap.size CS)
  rw [← HQ6.out]
  rw [← HQ6.out] at HT4 HO1 HP1 B24
  clear B34 HN
  generalize (w3.alloc (.cells ip6z 26)).setRow Q6 CS = w4 at *
  have HB4 : Hid (Below w.heap.size w w4) := HB2.out.trans (B24.out.mono HB2.out.size)
  go_wp2_with fail
  go_at_call 8
  refine (HRRD.out A c w4 hcap hc9 ((HR.out.keep HB4.out).more HB4.out.size)).mono ?_
  rintro e w5 ⟨O2, co2, P2, cp2, rfl, ho2, hp2, hb5⟩
  obtain ⟨CZ, hCZ⟩ : ∃ CZ, CZ = ip6c C L NN PP H s1 d1 (.slice O2 on1 co2) := ⟨_, rfl⟩
  have HCZ := Lib.hid hCZ
  have H1Z : Hid (CZ.all (·.oneCell') = true) := by rw [hCZ]; exact ip6_one ..
  have HSZZ : Hid (CZ.size = 38) := by rw [hCZ]; rfl
  rw [← hCZ]
  have HN : Hid ((w5.alloc (.cells ip6z 26)).heap[w5.heap.size]? = some (.cells ip6z 26 (0, 0))) := heap_alloc_new w5 _
  have HTZ : Hid (((w5.alloc (.cells ip6z 26)).setRow w5.heap.size CZ).heap[w5.heap.size]? = some (.cells CZ 26 (0, 0))) := setRow_heap _ _ _ CZ _ _ HN.out
  have B56 : Hid (Below w5.heap.size w5 ((w5.alloc (.cells ip6z 26)).setRow w5.heap.size CZ)) := below_setRow (below_alloc w5 _) (Nat.le_refl _) CZ
  have B46 : Hid (Below w4.heap.size w4 ((w5.alloc (.cells ip6z 26)).setRow w5.heap.size CZ)) := hb5.trans (B56.out.mono hb5.size)
  have HO2 := Lib.hid (ho2.below B56.out)
  have HP2 := Lib.hid (hp2.below B56.out)
  clear hCZ ho2 hp2 hb5
  go_upto_region 6 with (first
    | (refine wpList_store_row rfl 26 (.tmp 11) (.tmp 48) rfl w5.heap.size CZ rfl rfl 26 ip6z HN.out (hi38.out.trans (by rw [HSZZ.out])) (by rw [HSZZ.out]; rfl) H1Z.out ?_))
  change Code.wp _ _ _ _ ((w5.alloc (.cells ip6z 26)).setRow w5.heap.size CZ)
  clear B56 HN
  generalize (w5.alloc (.cells ip6z 26)).setRow w5.heap.size CZ = w6 at *
  have HT6 := Lib.hid ((B46.out.block _ (lt_heap HT4.out)).trans HT4.out)
  have HO16 := Lib.hid (HO1.out.below B46.out)
  have HP16 := Lib.hid (HP1.out.below B46.out)
  have B26 : Hid (Below w2.heap.size w2 w6) := B24.out.trans (B46.out.mono B24.out.size)
  have HSM6 : Hid (Calls Try.prog 9 #[.agg CS, .agg CZ] w6 fun e w' => e = .returned (.bool true) ∧ Below w6.heap.size w6 w') := by
    rw [HCS.out, HCZ.out]
    exact HSM.out O1 O2 co1 co2 w6 HO16.out.rd HO2.out.rd
  have HCV : Hid (∃ S, ∀ w7, Below w6.heap.size w6 w7 → (convert 24 9 (.slice P1 pn cp1)).run Try.prog w7 = .ok (.string S) w7 ∧ (convert 24 9 (.slice P2 pn cp2)).run Try.prog w7 = .ok (.string S) w7) := ⟨strOfNums (nums pn fp), fun w7 hb7 =>
    ⟨run_convert_rd (P := Try.prog) (HP16.out.below hb7).rd 24 5 9 cp1 Try.underlying24 Try.underlying5 Try.underlying9, run_convert_rd (P := Try.prog) (HP2.out.below hb7).rd 24 5 9 cp2 Try.underlying24 Try.underlying5 Try.underlying9⟩⟩
  obtain ⟨S, hS⟩ := HCV.out
  have HSS := Lib.hid hS
  clear hS HCV HSM HRD HRRD HO1 HP1 HT4 B46 HO2 HP2 HCS HCZ H1 H1Z HB4 B24
  go_upto_if 66 with (first
    | (refine wpList_load_roww rfl 26 (.tmp 8) rfl Q6 rfl 26 CS (0, 0) _ HT6.out Try.underlying26 rfl (hi38.out.trans (by rw [HSZ.out])) ?_)
    | (refine wpList_load_roww rfl 26 (.tmp 11) rfl w5.heap.size rfl 26 CZ (0, 0) _ HTZ.out Try.underlying26 rfl (hi38.out.trans (by rw [HSZZ.out])) ?_)
    | (go_at_call 9
       refine HSM6.out.mono ?_
       rintro e w7 ⟨rfl, hb7⟩
       obtain ⟨hv1, hv2⟩ := HSS.out w7 hb7
       have B67 := Lib.hid hb7
       clear hb7))
  have HB7 : Hid (Below w.heap.size w w7) := (HB2.out.trans (B26.out.mono HB2.out.size)).trans (B67.out.mono (HB2.out.trans (B26.out.mono HB2.out.size)).size)
  have B27 : Hid (Below w2.heap.size w2 w7) := B26.out.trans (B67.out.mono B26.out.size)
  have HE7 := Lib.hid ((B27.out.block _ (lt_heap HE2.out)).trans HE2.out)
  have HT7 := Lib.hid ((B67.out.block _ (lt_heap HT6.out)).trans HT6.out)
  have hk1 : Kp w7 w2.heap.size O1 on1 co1 := ⟨fo1, HFO1.out, HO16.out.below B67.out⟩
  have hk2 : Kp w7 w2.heap.size P1 pn cp1 := ⟨fp, HFP.out, HP16.out.below B67.out⟩
  have HK1 := Lib.hid hk1
  have HK2 := Lib.hid hk2
  clear hk1 hk2 HO16 HP16 B67 B26 HT6 HTZ HSM6 HSS hv1 hv2 HE2
  go_wp2_with (first
    | (refine wpList_load_roww rfl 26 (.tmp 3) rfl w.heap.size rfl 26 (ip6c cls lab next proto hops s d (.slice O on co)) (0, 0) _ HE7.out Try.underlying26 rfl (by kernel_rfl) ?_))
  go_at_call 10
  refine (HW.out A2 c2 w7 ((HRO.out.keep HB7.out).more HB7.out.size) ((HIN.out.keep B27.out).more B27.out.size)).mono ?_
  rintro e w8 ⟨U, cu, rfl, hu, hb8⟩
  have HB8 : Hid (Below w.heap.size w w8) := HB7.out.trans (hb8.mono HB7.out.size)
  have B28 : Hid (Below w2.heap.size w2 w8) := B27.out.trans (hb8.mono B27.out.size)
  have HE8 := Lib.hid ((hb8.block _ (lt_heap HE7.out)).trans HE7.out)
  have HT8 := Lib.hid ((hb8.block _ (lt_heap HT7.out)).trans HT7.out)
  have HK18 := Lib.hid (HK1.out.below hb8)
  have HK28 := Lib.hid (HK2.out.below hb8)
  have HU8 := Lib.hid hu
  clear hu hb8 HB7 B27 HE7 HT7 HK1 HK2 HW
  go_wp2_with (first
    | (refine wpList_load_roww rfl 26 (.tmp 3) rfl w.heap.size rfl 26 (ip6c cls lab next proto hops s d (.slice O on co)) (0, 0) _ HE8.out Try.underlying26 rfl (by kernel_rfl) ?_))
  go_at_call 11
  refine (HRW.out A c w8 ((HRO.out.keep HB8.out).more HB8.out.size) ((HR.out.keep HB8.out).more HB8.out.size)).mono ?_
  rintro e w9 ⟨V, cv, rfl, hv, hb9⟩
  have HB9 : Hid (Below w.heap.size w w9) := HB8.out.trans (hb9.mono HB8.out.size)
  have B29 : Hid (Below w2.heap.size w2 w9) := B28.out.trans (hb9.mono B28.out.size)
  have HT9 := Lib.hid ((hb9.block _ (lt_heap HT8.out)).trans HT8.out)
  have HK19 := Lib.hid (HK18.out.below hb9)
  have HK29 := Lib.hid (HK28.out.below hb9)
  have hvU := run_convert_rd (P := Try.prog) (HU8.out.below hb9).rd 24 5 9 cu Try.underlying24 Try.underlying5 Try.underlying9
  have hvV := run_convert_rd (P := Try.prog) hv.rd 24 5 9 cv Try.underlying24 Try.underlying5 Try.underlying9
  generalize strOfNums (nums mu gu) = S2 at hvU hvV
  clear hv hb9 HB8 B28 HE8 HT8 HK18 HK28 HU8 HRW
  go_upto_if 88 with fail
  clear hvU hvV
  go_wp2_with fail
  go_at_call 12
  refine (HC1.out A2 c2 w9 hc2 hc29 ((HIN.out.keep B29.out).more B29.out.size)).mono ?_
  rintro e w10 ⟨rfl, hb10⟩
  have HB10 : Hid (Below w.heap.size w w10) := HB9.out.trans (hb10.mono HB9.out.size)
  have B210 : Hid (Below w2.heap.size w2 w10) := B29.out.trans (hb10.mono B29.out.size)
  have HT10 := Lib.hid ((hb10.block _ (lt_heap HT9.out)).trans HT9.out)
  have HK110 := Lib.hid (HK19.out.below hb10)
  have HK210 := Lib.hid (HK29.out.below hb10)
  clear hb10 HB9 B29 HT9 HK19 HK29 HC1
  go_wp2_with fail
  go_at_call 13
  refine (HC2.out A c w10 hcap hc9 ((HR.out.keep HB10.out).more HB10.out.size)).mono ?_
  rintro e w11 ⟨rfl, hb11⟩
  have B211 : Hid (Below w2.heap.size w2 w11) := B210.out.trans (hb11.mono B210.out.size)
  have HT11 := Lib.hid ((hb11.block _ (lt_heap HT10.out)).trans HT10.out)
  have HK111 := Lib.hid (HK110.out.below hb11)
  have HK211 := Lib.hid (HK210.out.below hb11)
  clear hb11 HB10 B210 HT10 HK110 HK210 HC2
  go_upto_if 115 with fail
  go_wp2_with fail
  go_loopw [118] (fun i wr => ∃ j1 : Nat, j1 ≤ pn ∧ i = .int .i64 j1 ∧ Kp wr w2.heap.size P1 pn cp1 ∧ Kp wr w2.heap.size O1 on1 co1 ∧ wr.heap[Q6]? = some (.cells CS 26 (0, 0)) ∧ Below w2.heap.size w2 wr) (fun i _ => pn - (intOf i).toNat)
  case atStart => exact ⟨0, by omega, rfl, HK211.out, HK111.out, HT11.out, B211.out⟩
  case round =>
    clear HK211 HK111 HT11 B211
    obtain ⟨j1, hj1, rfl, hkp, hko, hq6, hbl⟩ := hrel
    have HKP := Lib.hid hkp
    have HKO := Lib.hid hko
    have HQR := Lib.hid hq6
    have HBR := Lib.hid hbl
    clear hkp hko hq6 hbl
    by_cases hlj1 : j1 < pn
    · obtain ⟨fx, hfx, hox⟩ := HKP.out
      obtain ⟨gx, hxe, hgb, _, hcell, hfree⟩ := hox.lies (by omega)
      subst hxe
      have hne := hox.ne HQR.out
      have hx := hcell j1 hlj1
      have hfz := hfree j1
      obtain ⟨x0, x1⟩ := hfx j1
      generalize fx j1 = x at *
      have hvb : 0 ≤ (x + 1) % 256 ∧ (x + 1) % 256 ≤ 255 := by omega
      have H1' := Lib.hid (HKP.out.set gx j1 ((x + 1) % 256) hvb)
      have H3' := Lib.hid (HKO.out.set gx j1 ((x + 1) % 256) hvb)
      have H4' := Lib.hid (blk_far HQR.out (p := ⟨gx, j1, none⟩) hne (.int .u8 ((x + 1) % 256)))
      have H5' := Lib.hid (HBR.out.setCell (p := ⟨gx, j1, none⟩) hgb (.int .u8 ((x + 1) % 256)))
      clear hcell hfree hox hfx hvb HKP HKO HQR HBR
      go_wp2
      go_roundw
      case rel => exact ⟨j1 + 1, by omega, by go_num, H1'.out, H3'.out, H4'.out, H5'.out⟩
      case measure => simp [intOf]; omega
    · obtain rfl : pn = j1 := by omega
      clear hlj1
      have c37 : wr.cell? ⟨Q6, 37, none⟩ = some (.slice O1 on1 co1) := (blk_cell HQR.out 37).trans H37.out
      go_wp2
      clear c37
      go_loopw [131] (fun i wr => ∃ j3 : Nat, j3 ≤ on1 ∧ i = .int .i64 j3 ∧ Kp wr w2.heap.size O1 on1 co1 ∧ wr.heap[Q6]? = some (.cells CS 26 (0, 0)) ∧ Below w2.heap.size w2 wr) (fun i _ => on1 - (intOf i).toNat)
      case atStart => exact ⟨0, by omega, rfl, HKO.out, HQR.out, HBR.out⟩
      case round =>
        obtain ⟨j3, hj3, rfl, hko, hq6, hbl⟩ := hrel
        have HKO := Lib.hid hko
        have HQR := Lib.hid hq6
        have HBR := Lib.hid hbl
        clear hko hq6 hbl
        by_cases hlj3 : j3 < on1
        · obtain ⟨fx, hfx, hox⟩ := HKO.out
          obtain ⟨gx, hxe, hgb, _, hcell, hfree⟩ := hox.lies (by omega)
          subst hxe
          have hne := hox.ne HQR.out
          have hx := hcell j3 hlj3
          have hfz := hfree j3
          obtain ⟨x0, x1⟩ := hfx j3
          generalize fx j3 = x at *
          have c37 : wr.cell? ⟨Q6, 37, none⟩ = some (.slice (some ⟨gx, 0, none⟩) on1 co1) := (blk_cell HQR.out 37).trans H37.out
          have hvb : 0 ≤ (x + 1) % 256 ∧ (x + 1) % 256 ≤ 255 := by omega
          have H3' := Lib.hid (HKO.out.set gx j3 ((x + 1) % 256) hvb)
          have H4' := Lib.hid (blk_far HQR.out (p := ⟨gx, j3, none⟩) hne (.int .u8 ((x + 1) % 256)))
          have H5' := Lib.hid (HBR.out.setCell (p := ⟨gx, j3, none⟩) hgb (.int .u8 ((x + 1) % 256)))
          clear hcell hfree hox hfx hvb HKO HQR HBR
          go_wp2
          go_roundw
          case rel => exact ⟨j3 + 1, by omega, by go_num, H3'.out, H4'.out, H5'.out⟩
          case measure => simp [intOf]; omega
        · obtain rfl : on1 = j3 := by omega
          have HBw : Hid (Below w.heap.size w wr) := HB2.out.trans (HBR.out.mono HB2.out.size)
          have hcA := run_convert_rd (P := Try.prog) (HR.out.keep HBw.out) 24 5 9 c Try.underlying24 Try.underlying5 Try.underlying9
          have hcB := run_convert_rd (P := Try.prog) (HIN.out.keep HBR.out) 24 5 9 c2 Try.underlying24 Try.underlying5 Try.underlying9
          generalize strOfNums (nums n f) = S3 at *
          go_wp2_with (first
            | (go_at_call 6; refine (KN.out _).mono ?_; rintro e w12 ⟨rfl, hb12⟩))
          go_ret
          exact ⟨rfl, HBw.out.trans (hb12.mono HBw.out.size)⟩
set_option maxRecDepth 100000 in
set_option maxHeartbeats 1000000 in
theorem packets6_long (cls lab next proto hops : Int) (s d : Nat → Int) (O : Option Addr) (on co : Nat) (A : Option Addr) (n c : Nat) (nx : Int) (hon : on ≤ 9223372036854775807) (hn : n ≤ 9223372036854775807) (h : 4000 < n ∨ 4000 < on) (w : World) :
    Calls Try.prog 3 #[.agg (ip6c cls lab next proto hops s d (.slice O on co)), .slice A n c, .int .u8 nx] w fun e w' => e = .returned (.bool true) ∧ Below w.heap.size w w' := by
  have HE1 : Hid ((w.alloc (.cells (ip6c cls lab next proto hops s d (.slice O on co)) 26)).heap[w.heap.size]? = some (.cells (ip6c cls lab next proto hops s d (.slice O on co)) 26 (0, 0))) := heap_alloc_new w _
  have HB1 : Hid (Below w.heap.size w (w.alloc (.cells (ip6c cls lab next proto hops s d (.slice O on co)) 26))) := below_alloc w _
  have ho37 : (w.alloc (.cells (ip6c cls lab next proto hops s d (.slice O on co)) 26)).cell? ⟨w.heap.size, 37, none⟩ = some (.slice O on co) := blk_cell HE1.out 37
  have KN := Lib.hid known_any
  by_cases a : 4000 < n
  · have a' : (4000 : Int) < (n : Int) := by omega
    clear h
    go_enter Try.func3, Try.ntmps3
    go_wp2_with (first
      | (go_at_call 6; refine (KN.out _).mono ?_; rintro e w3 ⟨rfl, hb3⟩))
    go_ret
    exact ⟨rfl, HB1.out.trans (hb3.mono HB1.out.size)⟩
  · have a' : ¬ (4000 : Int) < (n : Int) := by omega
    have c' : (4000 : Int) < (on : Int) := by omega
    clear h
    go_enter Try.func3, Try.ntmps3
    go_wp2_with (first
      | (go_at_call 6; refine (KN.out _).mono ?_; rintro e w3 ⟨rfl, hb3⟩))
    go_ret
    exact ⟨rfl, HB1.out.trans (hb3.mono HB1.out.size)⟩
end Go.Proofs.Ytankpbehahopgaa
