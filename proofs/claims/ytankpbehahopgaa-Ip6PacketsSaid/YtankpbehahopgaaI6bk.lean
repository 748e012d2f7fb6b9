/- Layer 4: what Read and Write tell, in forms for laws; Ip6Back, walked. -/
import Derived.Test.YtankpbehahopgaaI6w
import Derived.Test.YtankpbehahopgaaI6k
namespace Go.Proofs.Ytankpbehahopgaa
open Go.RowKit
/-- A whole struct, loaded behind a guard or not. -/
theorem wpList_load_roww {P : Program} {ops : Array Oper} {rest : List Oper} {op : Oper} {a : Act} {w : World} {Q : Exit → Act → World → Prop} (hw : Region.wanted op (yielded ops a.tmps) = true) (ty : TypeId) (x : Operand) (ho : op.op = .load ty x)
    (g : Nat) (hx : a.eval x = .pointer (some ⟨g, 0, none⟩)) (t : TypeId) (cs : Array Value) (fr : Nat × Nat) (d : TypeDesc) (hg : w.heap[g]? = some (.cells cs t fr)) (hu : P.underlying ty = some d)
    (hd : (match d with | .struct _ | .array _ _ => true | _ => false) = true) (hi : (P.info? ty).map (·.size) = some cs.size) (h : wpList P ops Q rest (a.put op.dst (.agg cs)) w) : wpList P ops Q (op :: rest) a w := by
  refine BigFrame.wpList_want hw fun K hK => ?_
  unfold Oper.wp execOp
  simp only [ho, hx, Instr.loadAt, Instr.sureAddr, Sem.run_bind, Sem.run_pure, Result.andThen_ok, run_loadVar_row w g t ty cs fr d hg hu hd hi]
  exact hK _ _ h
theorem zer_byt : Byt (fun _ => 0) := fun _ => ⟨Int.le_refl 0, (by decide : (0 : Int) ≤ 255)⟩
theorem cat_byt {f g : Nat → Int} (n : Nat) (hf : Byt f) (hg : Byt g) : Byt (cat n f g) := fun k => by
  unfold cat
  split
  · exact hf k
  · exact hg _
theorem wr6_both {base et : Nat} {ok : Bool} {m : Nat} {g : Nat → Int} {w : World} {e : Ending} {w' : World} (h : Wr6 base et ok m g w e w') :
    ∃ U mu cu X gu, e = .returned (.tuple #[.slice U mu cu, .int .i64 X]) ∧ Own w' base et U mu cu gu ∧ Below base w w' ∧ ((X = 0 ∧ ok = true ∧ m ≤ 1660 ∧ mu = m ∧ gu = g) ∨ (X ≠ 0 ∧ mu = 0 ∧ (ok = true → X = 3 ∧ 1660 < m))) := by
  rcases h with ⟨ho, U, cu, he, hu, hb⟩ | ⟨ho, hl, U, cu, he, hu, hb⟩ | ⟨ho, hl, U, cu, he, hu, hb⟩
  · exact ⟨U, 0, cu, 2, _, he, hu, hb, .inr ⟨by decide, rfl, fun h' => by rw [ho] at h'; cases h'⟩⟩
  · exact ⟨U, 0, cu, 3, _, he, hu, hb, .inr ⟨by decide, rfl, fun _ => ⟨rfl, hl⟩⟩⟩
  · exact ⟨U, m, cu, 0, g, he, hu, hb, .inl ⟨rfl, ho, hl, rfl, rfl⟩⟩
theorem ok6_parts {lab next proto : Int} {on : Nat} {fo : Nat → Int} (h : ok6 lab next proto on fo = true) : lab ≤ 1048575 ∧ chn fo on 8 next 0 = (proto, on, 0) := by
  unfold ok6 at h
  simpa using h
theorem ok6_mk {lab next proto : Int} {on : Nat} {fo : Nat → Int} (h1 : lab ≤ 1048575) (h2 : chn fo on 8 next 0 = (proto, on, 0)) : ok6 lab next proto on fo = true := by
  unfold ok6
  simp [h1, h2]
theorem ip6c_congr {cls lab next proto hops : Int} {s s' d d' : Nat → Int} {o : Value} (hs : ∀ k, k < 16 → s k = s' k) (hd : ∀ k, k < 16 → d k = d' k) : ip6c cls lab next proto hops s d o = ip6c cls lab next proto hops s' d' o := by
  unfold ip6c
  rw [hs 0 (by omega), hs 1 (by omega), hs 2 (by omega), hs 3 (by omega), hs 4 (by omega), hs 5 (by omega), hs 6 (by omega), hs 7 (by omega), hs 8 (by omega), hs 9 (by omega), hs 10 (by omega), hs 11 (by omega), hs 12 (by omega), hs 13 (by omega), hs 14 (by omega), hs 15 (by omega),
    hd 0 (by omega), hd 1 (by omega), hd 2 (by omega), hd 3 (by omega), hd 4 (by omega), hd 5 (by omega), hd 6 (by omega), hd 7 (by omega), hd 8 (by omega), hd 9 (by omega), hd 10 (by omega), hd 11 (by omega), hd 12 (by omega), hd 13 (by omega), hd 14 (by omega), hd 15 (by omega)]
theorem lab6_bd {f : Nat → Int} (hf : Byt f) : 0 ≤ lab6 f ∧ lab6 f ≤ 1048575 := by
  have a := hf 1
  have b := hf 2
  have c := hf 3
  unfold lab6
  omega
theorem cls6_bd {f : Nat → Int} (hf : Byt f) : 0 ≤ cls6 f ∧ cls6 f ≤ 255 := by
  have a := hf 0
  have b := hf 1
  unfold cls6
  omega
/-- What was read, written: its first bytes again. -/
theorem back6_write {f : Nat → Int} (hf : Byt f) {n : Nat} (h : rd6E f n = 0) {p : Int} {m : Nat} (hc : chn6 f = (p, m, 0)) (k : Nat) (hk : k < 40 + (m + (ln6 f - m))) :
    cat (40 + m) (cat 40 (hdr6 (cls6 f) (lab6 f) (f 6) (f 7) (fun k => f (8 + k)) (fun k => f (24 + k)) (m + (ln6 f - m))) (fun k => f (40 + k))) (fun k => f (40 + (m + k))) k = f k := by
  obtain ⟨_, _, _, p', m', hc', hm⟩ := rd6_ok h
  rw [hc] at hc'
  injection hc' with _ hc'
  injection hc' with hc' _
  subst hc'
  have e : m + (ln6 f - m) = ln6 f := by omega
  rw [e] at hk ⊢
  unfold cat
  by_cases h1 : k < 40 + m
  · rw [if_pos h1]
    by_cases h2 : k < 40
    · rw [if_pos h2]
      exact rd6_write hf h _ _ (fun _ _ => rfl) (fun _ _ => rfl) k h2
    · rw [if_neg h2]
      show f (40 + (k - 40)) = f k
      congr 1
      omega
  · rw [if_neg h1]
    show f (40 + (m + (k - (40 + m)))) = f k
    congr 1
    omega
set_option maxRecDepth 100000 in
set_option maxHeartbeats 4000000 in
theorem back6_any (cls lab next proto hops : Int) (s d : Nat → Int) (O : Option Addr) (on co : Nat) (fo : Nat → Int) (A : Option Addr) (n c : Nat) (f : Nat → Int) (A' : Option Addr) (n' c' : Nat) (f' : Nat → Int)
    (h1 : 0 ≤ cls ∧ cls ≤ 255) (h2 : 0 ≤ lab ∧ lab ≤ 4294967295) (h3 : 0 ≤ next ∧ next ≤ 255) (h4 : 0 ≤ hops ∧ hops ≤ 255) (hs : Byt s) (hd : Byt d) (hfo : Byt fo) (hf : Byt f) (hf' : Byt f') (hon : on ≤ 4000) (hoc : on ≤ co) (hco : co ≤ 9223372036854775807) (hn : n ≤ 2000) (hcap : n ≤ c) (hc9 : c ≤ 9223372036854775807) (hn' : n' ≤ 2000)
    (w : World) (hro : Rd w w.heap.size O on fo) (hr : Rd w w.heap.size A n f) (hr' : Rd w w.heap.size A' n' f') :
    Calls Try.prog 4 #[.agg (ip6c cls lab next proto hops s d (.slice O on co)), .slice A n c, .slice A' n' c'] w fun e w' => e = .returned (.bool true) ∧ Below w.heap.size w w' := by
  obtain ⟨i0, hi0, hz0, hz1, hz2⟩ := info_parts Try.info5
  have HI0 := Lib.hid hi0
  have HZ0 := Lib.hid hz0
  have HZ1 := Lib.hid hz1
  have HZ2 := Lib.hid hz2
  clear hi0 hz0 hz1 hz2
  have HE1 : Hid ((w.alloc (.cells (ip6c cls lab next proto hops s d (.slice O on co)) 26)).heap[w.heap.size]? = some (.cells (ip6c cls lab next proto hops s d (.slice O on co)) 26 (0, 0))) := heap_alloc_new w _
  have HB1 : Hid (Below w.heap.size w (w.alloc (.cells (ip6c cls lab next proto hops s d (.slice O on co)) 26))) := below_alloc w _
  have ho37 : (w.alloc (.cells (ip6c cls lab next proto hops s d (.slice O on co)) 26)).cell? ⟨w.heap.size, 37, none⟩ = some (.slice O on co) := blk_cell HE1.out 37
  have KN := Lib.hid known_any
  have HW := Lib.hid (write6_any cls lab next proto hops s d O on co fo A n c f h1 h2 h3 hfo (by omega) (by omega) hoc hco (w.alloc (.cells (ip6c cls lab next proto hops s d (.slice O on co)) 26)) ((hro.keep HB1.out).more HB1.out.size) ((hr.keep HB1.out).more HB1.out.size))
  have HBY : Hid (ok6 lab next proto on fo = true → 40 + (on + n) ≤ 1660 → Byt (cat (40 + on) (cat 40 (hdr6 cls lab next hops s d (on + n)) fo) f)) := fun hk ht =>
    cat_byt _ (cat_byt _ (hdr6_byt h1 ⟨h2.1, (ok6_parts hk).1⟩ h3 h4 hs hd (by omega)) hfo) hf
  have HBK : Hid (∀ (g : Nat → Int) (N : Nat), ok6 lab next proto on fo = true → 40 + (on + n) ≤ 1660 → 40 + (on + n) ≤ N → (∀ k, k < 40 → g k = hdr6 cls lab next hops s d (on + n) k) → (∀ k, k < on → g (40 + k) = fo k) →
      rd6E g N = 0 ∧ ln6 g = on + n ∧ chn6 g = (proto, on, 0) ∧ cls6 g = cls ∧ lab6 g = lab ∧ g 6 = next ∧ g 7 = hops ∧ (∀ k, k < 16 → g (8 + k) = s k) ∧ (∀ k, k < 16 → g (24 + k) = d k)) := fun g N hk hl hN hh hg =>
    hdr6_read h1 ⟨h2.1, (ok6_parts hk).1⟩ (by omega) (ok6_parts hk).2 N hN hh hg
  have HRO := Lib.hid hro
  have HR := Lib.hid hr
  have HR' := Lib.hid hr'
  have HF := Lib.hid hf
  have HF' := Lib.hid hf'
  clear hs hd hfo hf hf' hro hr hr' h1 h2 h3 h4
  have g1 : ¬ (2000 : Int) < (n : Int) := by omega
  have g2 : ¬ (2000 : Int) < (n' : Int) := by omega
  have g3 : ¬ (4000 : Int) < (on : Int) := by omega
  go_enter Try.func4, Try.ntmps4
  go_upto_if 30 with fail
  go_wp2_with (first
    | (refine wpList_load_roww rfl 26 (.tmp 3) rfl w.heap.size rfl 26 (ip6c cls lab next proto hops s d (.slice O on co)) (0, 0) _ HE1.out Try.underlying26 rfl (by kernel_rfl) ?_))
  go_at_call 10
  refine HW.out.mono ?_
  rintro e w2 hq
  obtain ⟨U, mu, cu, X, gu, rfl, hu, hb2, hX⟩ := wr6_both hq
  have HU2 : Hid (Own w2 w.heap.size 5 U mu cu gu) := hu.le (by simp)
  have HB2 : Hid (Below w.heap.size w w2) := HB1.out.trans (hb2.mono HB1.out.size)
  have HE2 := Lib.hid ((hb2.block _ (lt_heap HE1.out)).trans HE1.out)
  have HX := Lib.hid hX
  clear hq hu hb2 hX HW HE1 HB1 ho37
  go_upto_if 39 with fail
  go_cut [] from 7 to 64 (fun wx => Below w.heap.size w wx)
  case first =>
    rcases HX.out with ⟨rfl, hok, hl, rfl, rfl⟩ | ⟨hX0, _⟩
    · have hby := HBY.out hok hl
      obtain ⟨F, hF⟩ : ∃ F, F = cat (40 + on) (cat 40 (hdr6 cls lab next hops s d (on + n)) fo) f := ⟨_, rfl⟩
      have HFh : Hid (∀ k, k < 40 → F k = hdr6 cls lab next hops s d (on + n) k) := fun k hk => by rw [hF]; unfold cat; rw [if_pos (by omega), if_pos hk]
      have HFo : Hid (∀ k, k < on → F (40 + k) = fo k) := fun k hk => by
        rw [hF]
        unfold cat
        rw [if_pos (by omega), if_neg (by omega)]
        congr 1
        omega
      have HFp : Hid (∀ k, k < n → F (40 + (on + k)) = f k) := fun k hk => by
        rw [hF]
        unfold cat
        rw [if_neg (by omega)]
        congr 1
        omega
      rw [← hF] at HU2 hby
      have hBK := HBK.out (cat (40 + (on + n)) F f') (40 + (on + n) + n') hok hl (by omega) (fun k hk => by unfold cat; rw [if_pos (by omega)]; exact HFh.out k hk) (fun k hk => by unfold cat; rw [if_pos (by omega)]; exact HFo.out k hk)
      have HGY : Hid (Byt (cat (40 + (on + n)) F f')) := cat_byt _ hby HF'.out
      have HGP : Hid (∀ k, k < n → cat (40 + (on + n)) F f' (40 + (on + k)) = f k) := fun k hk => by unfold cat; rw [if_pos (by omega)]; exact HFp.out k hk
      have HGO : Hid (∀ k, k < on → cat (40 + (on + n)) F f' (40 + k) = fo k) := fun k hk => by unfold cat; rw [if_pos (by omega)]; exact HFo.out k hk
      have HGC : Hid (∀ k, cat (40 + (on + n)) (cat 0 (fun _ => 0) F) f' k = cat (40 + (on + n)) F f' k) := fun k => by
        unfold cat
        split
        · rw [if_neg (by omega)]; rfl
        · rfl
      obtain ⟨G, hG⟩ : ∃ G, G = cat (40 + (on + n)) F f' := ⟨_, rfl⟩
      rw [← hG] at hBK HGY HGP HGO HGC
      obtain ⟨r0, r1, r2, r3, r4, r5, r6, r7, r8⟩ := hBK
      have HR0 := Lib.hid r0
      have HR1 := Lib.hid r1
      have HR2 := Lib.hid r2
      have HR3 : Hid (∀ o, ip6c (cls6 G) (lab6 G) (G 6) proto (G 7) (fun k => G (8 + k)) (fun k => G (24 + k)) o = ip6c cls lab next proto hops s d o) := fun o => by
        rw [r3, r4, r5, r6]
        exact ip6c_congr r7 r8
      have hmu : 40 + (on + n) ≤ 1660 := hl
      clear hok hl hF hG r0 r1 r2 r3 r4 r5 r6 r7 r8 hby HX HBY HBK HFh HFo HFp
      obtain ⟨g, hgU, _, hgl, _, _⟩ := HU2.out.lies (by omega)
      subst hgU
      have hcu := HU2.out.cap
      have hcu9 := HU2.out.cap_le
      have HO0 : Hid (Own (w2.alloc (.cells #[] 5)) w2.heap.size 5 (some ⟨w2.heap.size, 0, none⟩) 0 0 (fun _ => 0)) := Own.fresh w2 _ _ rfl (Nat.le_refl _) _ _
      have B20 : Hid (Below w2.heap.size w2 (w2.alloc (.cells #[] 5))) := below_alloc w2 _
      go_wp2_with (first
        | (at_builtin
           refine wpList_append_rd rfl (.tmp 41) (.tmp 42) _ rfl w2.heap.size 5 i0 Try.underlying24 HI0.out HZ0.out HZ1.out HZ2.out rfl HO0.out rfl (HU2.out.rd.keep B20.out) (by omega) (alloc_le w2 _) ?_
           intro A3 c3 w3 hown3 hg3 _
           rw [Nat.zero_add] at hown3
           have HO3 := Lib.hid hown3
           have B23 : Hid (Below w2.heap.size w2 w3) := B20.out.grown hg3 B20.out.size (fun k hk => HO0.out.at_ k hk)
           clear hown3 hg3)
        | (at_builtin
           refine wpList_append_rd rfl (.tmp 43) (.tmp 44) _ rfl w2.heap.size 5 i0 Try.underlying24 HI0.out HZ0.out HZ1.out HZ2.out rfl HO3.out rfl (HR'.out.keep (HB2.out.trans (B23.out.mono HB2.out.size))) (by omega) B23.out.size ?_
           intro A4 c4 w4 hown4 hg4 _
           have HO4 : Hid (Own w4 w2.heap.size 5 A4 (40 + (on + n) + n') c4 G) := by
             have q : Own w4 w2.heap.size 5 A4 (40 + (on + n) + n') c4 (cat (40 + (on + n)) (cat 0 (fun _ => 0) F) f') := hown4
             exact q.same fun k _ => (HGC.out k).symm
           have B24 : Hid (Below w2.heap.size w2 w4) := B23.out.grown hg4 B23.out.size (fun k hk => HO3.out.at_ k hk)
           clear hown4 hg4))
      have HRD := Lib.hid (read6_any A4 (40 + (on + n) + n') c4 G HGY.out (by omega) HO4.out.cap HO4.out.cap_le w4 HO4.out.rd)
      rw [HR0.out] at HRD
      go_at_call 7
      refine HRD.out.mono ?_
      rintro e w5 hq
      rcases hq with ⟨h, _⟩ | ⟨_, p2, m2, O2, co2, P, cp, hc2, rfl, ho2, hp, _, hb5⟩
      · exact absurd rfl h
      rw [HR2.out] at hc2
      injection hc2 with e1 e2
      injection e2 with e2 _
      subst e1 e2
      rw [HR1.out] at hp ⊢
      rw [HR3.out]
      have z2 : on + n - on = n := by omega
      rw [z2] at hp ⊢
      have B25 : Hid (Below w2.heap.size w2 w5) := B24.out.trans (hb5.mono B24.out.size)
      obtain ⟨CS, hCS⟩ : ∃ CS, CS = ip6c cls lab next proto hops s d (.slice O2 on co2) := ⟨_, rfl⟩
      have HCS := Lib.hid hCS
      have H1 : Hid (CS.all (·.oneCell') = true) := by rw [hCS]; exact ip6_one ..
      have HSZ : Hid (CS.size = 38) := by rw [hCS]; rfl
      rw [← hCS]
      have HN : Hid ((w5.alloc (.cells ip6z 26)).heap[w5.heap.size]? = some (.cells ip6z 26 (0, 0))) := heap_alloc_new w5 _
      have HT6 : Hid (((w5.alloc (.cells ip6z 26)).setRow w5.heap.size CS).heap[w5.heap.size]? = some (.cells CS 26 (0, 0))) := setRow_heap _ _ _ CS _ _ HN.out
      have B56 : Hid (Below w5.heap.size w5 ((w5.alloc (.cells ip6z 26)).setRow w5.heap.size CS)) := below_setRow (below_alloc w5 _) (Nat.le_refl _) CS
      have HO2 := Lib.hid ho2
      have HP := Lib.hid hp
      have hi38 := Lib.hid (show (Try.prog.info? 26).map (·.size) = some 38 by kernel_rfl)
      clear hCS ho2 hp hb5 HRD HO4 HO3 HO0 B20 B23 z2
      go_upto_region 6 with (first
        | (refine wpList_store_row rfl 26 (.tmp 9) (.tmp 47) rfl w5.heap.size CS rfl rfl 26 ip6z HN.out (hi38.out.trans (by rw [HSZ.out])) (by rw [HSZ.out]; rfl) H1.out ?_))
      change Code.wp _ _ _ _ ((w5.alloc (.cells ip6z 26)).setRow w5.heap.size CS)
      generalize (w5.alloc (.cells ip6z 26)).setRow w5.heap.size CS = w6 at *
      have B26 : Hid (Below w2.heap.size w2 w6) := B25.out.trans (B56.out.mono B25.out.size)
      have HE6 := Lib.hid ((B26.out.block _ (lt_heap HE2.out)).trans HE2.out)
      have HSM : Hid (Calls Try.prog 9 #[.agg CS, .agg (ip6c cls lab next proto hops s d (.slice O on co))] w6 fun e w' => e = .returned (.bool true) ∧ Below w6.heap.size w6 w') := by
        rw [HCS.out]
        exact rsame_any cls lab next proto hops s d O2 O on co2 co fo w6 (((HO2.out.below B56.out).rd).same fun k hk => (HGO.out k hk).symm) ((HRO.out.keep (HB2.out.trans (B26.out.mono HB2.out.size))).more (Nat.le_trans HB2.out.size B26.out.size))
      have HB6 : Hid (Below w.heap.size w w6) := HB2.out.trans (B26.out.mono HB2.out.size)
      obtain ⟨S, hS⟩ : ∃ S, S = strOfNums (nums n f) := ⟨_, rfl⟩
      have HS := Lib.hid hS
      clear hS
      have HCV : Hid (∀ w7, Below w6.heap.size w6 w7 → (convert 24 9 (.slice P n cp)).run Try.prog w7 = .ok (.string S) w7 ∧ (convert 24 9 (.slice A n c)).run Try.prog w7 = .ok (.string S) w7) := fun w7 hb7 => by
        have q1 := run_convert_rd (P := Try.prog) (((HP.out.below B56.out).below hb7).rd) 24 5 9 cp Try.underlying24 Try.underlying5 Try.underlying9
        have q2 := run_convert_rd (P := Try.prog) (HR.out.keep (HB6.out.trans (hb7.mono HB6.out.size))) 24 5 9 c Try.underlying24 Try.underlying5 Try.underlying9
        rw [nums_congr (f := f) (fun k hk => HGP.out k hk), ← HS.out] at q1
        rw [← HS.out] at q2
        exact ⟨q1, q2⟩
      clear HE2 B24 B25 B56 HN H1 HO2 HP HR0 HR1 HR2 HR3 HGY HGP HGO HGC HU2
      go_wp2_with (first
        | (refine wpList_load_roww rfl 26 (.tmp 9) rfl w5.heap.size rfl 26 CS (0, 0) _ HT6.out Try.underlying26 rfl (hi38.out.trans (by rw [HSZ.out])) ?_)
        | (refine wpList_load_roww rfl 26 (.tmp 3) rfl w.heap.size rfl 26 (ip6c cls lab next proto hops s d (.slice O on co)) (0, 0) _ HE6.out Try.underlying26 rfl (by kernel_rfl) ?_)
        | (go_at_call 9
           refine HSM.out.mono ?_
           rintro e w7 ⟨rfl, hb7⟩
           obtain ⟨hv1, hv2⟩ := HCV.out w7 hb7
           have HB7 : Hid (Below w.heap.size w w7) := HB6.out.trans (hb7.mono HB6.out.size)
           clear hb7))
      go_meet
      exact HB7.out
    · have hX0' : (X == 0) = false := by simpa using hX0
      clear HX
      go_wp2_with fail
      go_meet
      exact HB2.out
  case rest =>
  have HBc := Lib.hid hcut
  clear hcut HX HB2 HE2 HU2 HBY HBK HR' HF' HRO
  have HRD := Lib.hid (read6_any A n c f HF.out (by omega) hcap hc9 wc ((HR.out.keep HBc.out).more HBc.out.size))
  obtain ⟨E, hE⟩ : ∃ E, E = rd6E f n := ⟨_, rfl⟩
  rw [← hE] at HRD
  have HEE := Lib.hid hE
  clear hE
  go_wp2_with fail
  go_at_call 7
  refine HRD.out.mono ?_
  rintro e w2 hq
  rcases hq with ⟨hE0, rfl, hb2⟩ | ⟨hE0, p2, m2, O2, co2, P, cp, hc2, rfl, ho2, hp, _, hb2⟩
  · have HB2 : Hid (Below w.heap.size w w2) := HBc.out.trans (hb2.mono HBc.out.size)
    have HN : Hid ((w2.alloc (.cells ip6z 26)).heap[w2.heap.size]? = some (.cells ip6z 26 (0, 0))) := heap_alloc_new w2 _
    have HB3 : Hid (Below w.heap.size w ((w2.alloc (.cells ip6z 26)).setRow w2.heap.size ip6z)) := below_setRow (HB2.out.alloc HB2.out.size _) HB2.out.size ip6z
    have hE1 : (E != 0) = true := by simpa using hE0
    clear hb2 HRD HEE hE0
    go_upto_region 9 with (first
      | (refine wpList_store_row rfl 26 (.tmp 12) (.tmp 68) rfl w2.heap.size ip6z rfl rfl 26 ip6z HN.out (by kernel_rfl) rfl ip6z_one ?_))
    change Code.wp _ _ _ _ ((w2.alloc (.cells ip6z 26)).setRow w2.heap.size ip6z)
    generalize (w2.alloc (.cells ip6z 26)).setRow w2.heap.size ip6z = w3 at *
    go_wp2_with (first
      | (go_at_call 6; refine (KN.out _).mono ?_; rintro e w4 ⟨rfl, hb4⟩))
    go_ret
    exact ⟨rfl, HB3.out.trans (hb4.mono HB3.out.size)⟩
  · have hrd : rd6E f n = 0 := by rw [← HEE.out]; exact hE0
    have hmL : m2 ≤ ln6 f := by
      obtain ⟨_, _, _, p', m', hc', hm⟩ := rd6_ok hrd
      rw [hc2] at hc'
      injection hc' with _ hc'
      injection hc' with hc' _
      omega
    have hLn : 40 + ln6 f ≤ n := (rd6_ok hrd).2.2.1
    have hokk : ok6 (lab6 f) (f 6) p2 m2 (fun k => f (40 + k)) = true := ok6_mk (lab6_bd HF.out).2 (rd6_chain hc2 fun _ _ => rfl)
    have HBW : Hid (∀ k, k < 40 + (m2 + (ln6 f - m2)) → cat (40 + m2) (cat 40 (hdr6 (cls6 f) (lab6 f) (f 6) (f 7) (fun k => f (8 + k)) (fun k => f (24 + k)) (m2 + (ln6 f - m2))) (fun k => f (40 + k))) (fun k => f (40 + (m2 + k))) k = f k) := fun k hk => back6_write HF.out hrd hc2 k hk
    have hw6 : ∀ W, Rd W W.heap.size O2 m2 (fun k => f (40 + k)) → Rd W W.heap.size P (ln6 f - m2) (fun k => f (40 + (m2 + k))) → m2 ≤ co2 → co2 ≤ 9223372036854775807 → _ := fun W ha hb hc hd =>
      write6_any (cls6 f) (lab6 f) (f 6) p2 (f 7) (fun k => f (8 + k)) (fun k => f (24 + k)) O2 m2 co2 (fun k => f (40 + k)) P (ln6 f - m2) cp (fun k => f (40 + (m2 + k))) (cls6_bd HF.out) ⟨(lab6_bd HF.out).1, by have := (lab6_bd HF.out).2; omega⟩ (HF.out 6) (fun k => HF.out _) (by omega) (by omega) hc hd W ha hb
    rw [hokk] at hw6
    obtain ⟨L, hL⟩ : ∃ L, L = ln6 f := ⟨_, rfl⟩
    rw [← hL] at hw6 HBW hmL hLn hp ⊢
    obtain ⟨FO, hFO⟩ : ∃ FO : Nat → Int, FO = fun k => f (40 + k) := ⟨_, rfl⟩
    obtain ⟨FP, hFP⟩ : ∃ FP : Nat → Int, FP = fun k => f (40 + (m2 + k)) := ⟨_, rfl⟩
    rw [← hFO] at hw6 HBW ho2
    rw [← hFP] at hw6 HBW hp
    obtain ⟨GG, hGG⟩ : ∃ GG, GG = cat (40 + m2) (cat 40 (hdr6 (cls6 f) (lab6 f) (f 6) (f 7) (fun k => f (8 + k)) (fun k => f (24 + k)) (m2 + (L - m2))) FO) FP := ⟨_, rfl⟩
    rw [← hGG] at hw6 HBW
    obtain ⟨CS, hCS⟩ : ∃ CS, CS = ip6c (cls6 f) (lab6 f) (f 6) p2 (f 7) (fun k => f (8 + k)) (fun k => f (24 + k)) (.slice O2 m2 co2) := ⟨_, rfl⟩
    have H1 : Hid (CS.all (·.oneCell') = true) := by rw [hCS]; exact ip6_one ..
    have HSZ : Hid (CS.size = 38) := by rw [hCS]; rfl
    have H37 : Hid (CS[37]? = some (.slice O2 m2 co2)) := by rw [hCS]; rfl
    rw [← hCS] at hw6 ⊢
    have HW6 := Lib.hid hw6
    have hi38 := Lib.hid (show (Try.prog.info? 26).map (·.size) = some 38 by kernel_rfl)
    have HB2 : Hid (Below w.heap.size w w2) := HBc.out.trans (hb2.mono HBc.out.size)
    have HN : Hid ((w2.alloc (.cells ip6z 26)).heap[w2.heap.size]? = some (.cells ip6z 26 (0, 0))) := heap_alloc_new w2 _
    have HT3 : Hid (((w2.alloc (.cells ip6z 26)).setRow w2.heap.size CS).heap[w2.heap.size]? = some (.cells CS 26 (0, 0))) := setRow_heap _ _ _ CS _ _ HN.out
    have B23 : Hid (Below w2.heap.size w2 ((w2.alloc (.cells ip6z 26)).setRow w2.heap.size CS)) := below_setRow (below_alloc w2 _) (Nat.le_refl _) CS
    have HO2 := Lib.hid ho2
    have HP := Lib.hid hp
    clear hL hFO hFP hGG hCS hw6 ho2 hp hb2 HRD HEE hrd hokk hc2 HBc
    go_upto_region 9 with (first
      | (refine wpList_store_row rfl 26 (.tmp 12) (.tmp 68) rfl w2.heap.size CS rfl rfl 26 ip6z HN.out (hi38.out.trans (by rw [HSZ.out])) (by rw [HSZ.out]; rfl) H1.out ?_))
    change Code.wp _ _ _ _ ((w2.alloc (.cells ip6z 26)).setRow w2.heap.size CS)
    generalize (w2.alloc (.cells ip6z 26)).setRow w2.heap.size CS = w3 at *
    have HB3 : Hid (Below w.heap.size w w3) := HB2.out.trans (B23.out.mono HB2.out.size)
    have HW := Lib.hid (HW6.out w3 (HO2.out.below B23.out).rd (HP.out.below B23.out).rd HO2.out.cap HO2.out.cap_le)
    clear HW6 HO2 HP
    go_wp2_with (first
      | (refine wpList_load_roww rfl 26 (.tmp 12) rfl w2.heap.size rfl 26 CS (0, 0) _ HT3.out Try.underlying26 rfl (hi38.out.trans (by rw [HSZ.out])) ?_))
    go_at_call 10
    refine HW.out.mono ?_
    rintro e w4 hq
    obtain ⟨U, mu, cu, X, gu, rfl, hu, hb4, hX⟩ := wr6_both hq
    have HB4 : Hid (Below w.heap.size w w4) := HB3.out.trans (hb4.mono HB3.out.size)
    have HT4 := Lib.hid ((hb4.block _ (lt_heap HT3.out)).trans HT3.out)
    rcases hX with ⟨rfl, _, hml, rfl, rfl⟩ | ⟨hX0, _, hX3⟩
    · obtain ⟨T, hT⟩ : ∃ T, T = 40 + (m2 + (L - m2)) := ⟨_, rfl⟩
      rw [← hT] at hu HBW ⊢
      have hTn : T ≤ n := by omega
      have hT40 : 40 ≤ T := by omega
      have HU : Hid (Own w4 w3.heap.size 5 U T cu f) := hu.same fun k hk => (HBW.out k hk).symm
      obtain ⟨D, hsD, hrD⟩ := slice_to A n c T hTn hcap hc9
      have i1 : (40 : Int) ≤ (T : Int) := by omega
      have i2 : (T : Int) ≤ (n : Int) := by omega
      have HRD4 := Lib.hid (hrD w4 w4.heap.size f ((HR.out.keep HB4.out).more HB4.out.size))
      have hvU : ∀ W : Stay w4, (convert 24 9 (.slice U T cu)).run Try.prog W.w = .ok (.string (strOfNums (nums T f))) W.w := fun W => run_convert_rd (Stay.rd HU.out.rd W) 24 5 9 cu Try.underlying24 Try.underlying5 Try.underlying9
      have hvV : ∀ W : Stay w4, (convert 24 9 (.slice D T c)).run Try.prog W.w = .ok (.string (strOfNums (nums T f))) W.w := fun W => run_convert_rd (Stay.rd HRD4.out W) 24 5 9 c Try.underlying24 Try.underlying5 Try.underlying9
      generalize strOfNums (nums T f) = S at hvU hvV
      clear hu hb4 hq HW HBW hT HT3 B23 HB2 HN hml hrD
      go_upto_region 14 with fail
      refine wp_region_stay (by kernel_rfl) (by kernel_rfl) ?_
      repeat (go_big_quiet_step (first
        | (go_at_call 6; with_reducible exact Calls.stay _ (KN.out _))))
      refine wpQuiet_nil ?_
      intro w' hw'
      obtain ⟨W, rfl⟩ := hw'
      go_wp2_with fail
      go_ret
      exact ⟨rfl, HB4.out.trans (W.below.mono HB4.out.size)⟩
    · obtain ⟨rfl, hbig⟩ := hX3 rfl
      have c37 : w4.cell? ⟨w2.heap.size, 37, none⟩ = some (.slice O2 m2 co2) := (blk_cell HT4.out 37).trans H37.out
      have e1 : (1660 : Int) < (m2 : Int) + ((L - m2 : Nat) : Int) + 40 := by omega
      clear hu hb4 hq HW HBW HT3 B23 HB2 HN hX0 hX3
      go_wp2_with (first
        | (go_at_call 6; refine (KN.out _).mono ?_; rintro e w5 ⟨rfl, hb5⟩))
      go_ret
      exact ⟨rfl, HB4.out.trans (hb5.mono HB4.out.size)⟩
set_option maxRecDepth 100000 in
set_option maxHeartbeats 1000000 in
theorem back6_long (cls lab next proto hops : Int) (s d : Nat → Int) (O : Option Addr) (on co : Nat) (A : Option Addr) (n c : Nat) (A' : Option Addr) (n' c' : Nat) (hon : on ≤ 9223372036854775807) (hn : n ≤ 9223372036854775807) (hn' : n' ≤ 9223372036854775807) (h : 2000 < n ∨ 2000 < n' ∨ 4000 < on) (w : World) :
    Calls Try.prog 4 #[.agg (ip6c cls lab next proto hops s d (.slice O on co)), .slice A n c, .slice A' n' c'] w fun e w' => e = .returned (.bool true) ∧ Below w.heap.size w w' := by
  have HE1 : Hid ((w.alloc (.cells (ip6c cls lab next proto hops s d (.slice O on co)) 26)).heap[w.heap.size]? = some (.cells (ip6c cls lab next proto hops s d (.slice O on co)) 26 (0, 0))) := heap_alloc_new w _
  have HB1 : Hid (Below w.heap.size w (w.alloc (.cells (ip6c cls lab next proto hops s d (.slice O on co)) 26))) := below_alloc w _
  have ho37 : (w.alloc (.cells (ip6c cls lab next proto hops s d (.slice O on co)) 26)).cell? ⟨w.heap.size, 37, none⟩ = some (.slice O on co) := blk_cell HE1.out 37
  have KN := Lib.hid known_any
  by_cases a : 2000 < n
  · have a' : (2000 : Int) < (n : Int) := by omega
    clear h
    go_enter Try.func4, Try.ntmps4
    go_wp2_with (first
      | (go_at_call 6; refine (KN.out _).mono ?_; rintro e w3 ⟨rfl, hb3⟩))
    go_ret
    exact ⟨rfl, HB1.out.trans (hb3.mono HB1.out.size)⟩
  · have a' : ¬ (2000 : Int) < (n : Int) := by omega
    by_cases b : 2000 < n'
    · have b' : (2000 : Int) < (n' : Int) := by omega
      clear h
      go_enter Try.func4, Try.ntmps4
      go_wp2_with (first
        | (go_at_call 6; refine (KN.out _).mono ?_; rintro e w3 ⟨rfl, hb3⟩))
      go_ret
      exact ⟨rfl, HB1.out.trans (hb3.mono HB1.out.size)⟩
    · have b' : ¬ (2000 : Int) < (n' : Int) := by omega
      have c' : (4000 : Int) < (on : Int) := by omega
      clear h
      go_enter Try.func4, Try.ntmps4
      go_wp2_with (first
        | (go_at_call 6; refine (KN.out _).mono ?_; rintro e w3 ⟨rfl, hb3⟩))
      go_ret
      exact ⟨rfl, HB1.out.trans (hb3.mono HB1.out.size)⟩end Go.Proofs.Ytankpbehahopgaa
