/- The document's answers for layer 3: Write. -/
import Derived.Test.YtmmmednghdnhnaaRI4b
import Derived.Test.YtmmmednghdnhnaaRI4s
import Derived.Test.YtmmmednghdnhnaaOf
import Derived.Deep.MidRow
import Derived.Deep.CutRange
namespace Go.Proofs.Ytmmmednghdnhnaa
open Go.RowKit
/-- Some cells in a row, loaded in a region that keeps them. -/
theorem wpQuiet_load_mid {P : Program} {ops : Array Oper} {C : World → Prop} {Q : Act → Prop} {a : Act} {o : Oper} {rest : List Oper} (hw : Region.wanted o (yielded ops a.tmps) = true) (ty : TypeId) (x : Operand) (ho : o.op = .load ty x)
    (g i : Nat) (hx : a.eval x = .pointer (some ⟨g, i, none⟩)) (cs : Array Value) (d : TypeDesc) (hg : ∀ w, C w → w.rangeAt g i cs.toList)
    (hu : P.underlying ty = some d) (hd : d.isRow = true) (hi : (P.info? ty).map (·.size) = some cs.toList.length)
    (h : wpQuiet P ops C Q rest (a.put o.dst (.agg cs))) : wpQuiet P ops C Q (o :: rest) a := by
  refine BigFrame.wpQuiet_want hw fun K hK => ⟨.agg cs, fun w hC => ?_, hK _ h⟩
  unfold Oper.quietAt execOp
  simp only [ho, hx, Instr.loadAt, Instr.sureAddr, Sem.run_bind, Sem.run_pure, Result.andThen_ok, run_loadVar_mid w g i ty cs.toList d (hg w hC) hu hd hi]
  exact ⟨rfl, rfl⟩
/-- Has an address four bytes alone? -/
def fourB (s : Nat → Int) : Bool := eqs s (adr s) 0 16
theorem neq16 (s : Nat → Int) (w : World) : (Op.equalIn 10000 23 (.agg (arr16 s)) (.agg (arr16 (adr s)))).run Try.prog w = .ok (fourB s) w := equal16 23 5 Try.underlying23 Try.underlying5 (by kernel_rfl) s (adr s) w
theorem own_new {w : World} {base : Nat} {e : TypeId} {cs : Array Value} (n : Nat) (f : Nat → Int) (hb : base ≤ w.heap.size) (hn : n ≤ 140737488355328) (hl : cs.toList = (nums n f).map (Value.int .u8)) (g : Nat) (hg : g = w.heap.size) : Own (w.alloc (.cells cs e)) base e (some ⟨g, 0, none⟩) n n f := by
  subst hg
  have hs : cs.size = n := by
    have q := congrArg List.length hl
    simpa [nums_len] using q
  exact ⟨by simp [nums_len], .inr ⟨w.heap.size, n, _, rfl, hb, heap_alloc_new w _, Nat.le_refl _, by unfold maxLen; omega, by simp [hs], by rw [hl, List.take_of_length_le (by simp [nums_len])]⟩⟩
theorem hdr0_12 (tos id : Int) (df : Bool) (ttl proto : Int) (s d : Nat → Int) (on : Nat) (o : Nat → Int) (n : Nat) :
    nums 12 (hdr0 tos id df ttl proto s d on o (20 + on + n)) = [64 + (20 + (on : Int)) / 4, tos, (20 + (on : Int) + (n : Int)) / 256, (20 + (on : Int) + (n : Int)) % 256, id / 256, id % 256, if df then 64 else 0, 0, ttl, proto, 0, 0] := by
  have e : ((20 + on + n : Nat) : Int) = 20 + (on : Int) + (n : Int) := by omega
  simp [nums, List.range_succ, hdr0]
theorem hdr0_cat (tos id : Int) (df : Bool) (ttl proto : Int) (s d : Nat → Int) (on : Nat) (o : Nat → Int) (t : Nat) (k : Nat) (hk : k < 20 + on) :
    hdr0 tos id df ttl proto s d on o t k = cat 20 (cat 16 (cat 12 (hdr0 tos id df ttl proto s d on o t) s) d) o k := by
  unfold cat
  by_cases h20 : k < 20
  · rw [if_pos h20]
    by_cases h16 : k < 16
    · rw [if_pos h16]
      by_cases h12 : k < 12
      · rw [if_pos h12]
      · rw [if_neg h12]
        unfold hdr0
        rw [if_neg (by omega), if_neg (by omega), if_neg (by omega), if_neg (by omega), if_neg (by omega), if_neg (by omega), if_neg (by omega), if_neg (by omega), if_neg (by omega), if_neg (by omega), if_neg (by omega), if_neg (by omega), if_pos h16]
    · rw [if_neg h16]
      unfold hdr0
      rw [if_neg (by omega), if_neg (by omega), if_neg (by omega), if_neg (by omega), if_neg (by omega), if_neg (by omega), if_neg (by omega), if_neg (by omega), if_neg (by omega), if_neg (by omega), if_neg (by omega), if_neg (by omega), if_neg h16, if_pos h20]
  · rw [if_neg h20]
    unfold hdr0
    rw [if_neg (by omega), if_neg (by omega), if_neg (by omega), if_neg (by omega), if_neg (by omega), if_neg (by omega), if_neg (by omega), if_neg (by omega), if_neg (by omega), if_neg (by omega), if_neg (by omega), if_neg (by omega), if_neg (by omega), if_neg h20, if_pos hk]
def Write4 (base et : Nat) (g : Nat → Int) (m : Nat) (x : Int) (w : World) (e : Ending) (w' : World) : Prop :=
  ∃ U cu, e = .returned (.tuple #[.slice U m cu, .int .i64 x]) ∧ Own w' base et U m cu g ∧ Below base w w'
set_option maxRecDepth 100000 in
set_option maxHeartbeats 4000000 in
theorem rwrite4_any (tos id : Int) (df : Bool) (ttl proto : Int) (s d : Nat → Int) (O : Option Addr) (on co : Nat) (fo : Nat → Int) (A : Option Addr) (n c : Nat) (f : Nat → Int)
    (h1 : 0 ≤ tos ∧ tos ≤ 255) (h2 : 0 ≤ id ∧ id ≤ 65535) (h3 : 0 ≤ ttl ∧ ttl ≤ 255) (h4 : 0 ≤ proto ∧ proto ≤ 255) (hs : Byt s) (hd : Byt d) (hfo : Byt fo) (hf : Byt f) (hon : on ≤ 2000) (hn : n ≤ 2000) (w : World) (hro : Rd w w.heap.size O on fo) (hr : Rd w w.heap.size A n f) :
    Calls Try.prog 11 #[.agg (ip4c tos id df ttl proto s d (.slice O on co)), .slice A n c] w fun e w' =>
      (optE fo on ≠ 0 ∧ Write4 w.heap.size 5 (fun _ => 0) 0 (optE fo on) w e w') ∨ (optE fo on = 0 ∧ (fourB s && fourB d) = false ∧ Write4 w.heap.size 5 (fun _ => 0) 0 2 w e w') ∨
      (optE fo on = 0 ∧ (fourB s && fourB d) = true ∧ 1660 < 20 + on + n ∧ Write4 w.heap.size 5 (fun _ => 0) 0 3 w e w') ∨
      (optE fo on = 0 ∧ (fourB s && fourB d) = true ∧ 20 + on + n ≤ 1660 ∧ Write4 w.heap.size 5 (cat (20 + on) (hdr4 tos id df ttl proto s d on fo (20 + on + n)) f) (20 + on + n) 0 w e w') := by
  obtain ⟨i0, hi0, hz0, hz1, hz2⟩ := info_parts Try.info5
  have HI0 := Lib.hid hi0
  have HZ0 := Lib.hid hz0
  have HZ1 := Lib.hid hz1
  have HZ2 := Lib.hid hz2
  have HE1 : Hid ((w.alloc (.cells (ip4c tos id df ttl proto s d (.slice O on co)) 26)).heap[w.heap.size]? = some (.cells (ip4c tos id df ttl proto s d (.slice O on co)) 26 (0, 0))) := heap_alloc_new w _
  have HB1 : Hid (Below w.heap.size w (w.alloc (.cells (ip4c tos id df ttl proto s d (.slice O on co)) 26))) := below_alloc w _
  have HRO := Lib.hid hro
  have HR := Lib.hid hr
  have HS := Lib.hid hs
  have HD := Lib.hid hd
  have HFO := Lib.hid hfo
  have HF := Lib.hid hf
  clear hi0 hz0 hz1 hz2 hro hr hs hd hfo hf
  obtain ⟨E, hE⟩ : ∃ E, E = optE fo on := ⟨_, rfl⟩
  rw [← hE]
  have ho37 : (w.alloc (.cells (ip4c tos id df ttl proto s d (.slice O on co)) 26)).cell? ⟨w.heap.size, 37, none⟩ = some (.slice O on co) := blk_cell HE1.out 37
  go_enter Try.func11, Try.ntmps11
  go_wp2_with fail
  generalize w.alloc (.cells (ip4c tos id df ttl proto s d (.slice O on co)) 26) = w1 at *
  have HOP := Lib.hid (roptions_any O on co fo HFO.out (by omega) w1 ((HRO.out.keep HB1.out).more HB1.out.size))
  rw [← hE] at HOP
  go_at_call 13
  refine HOP.out.mono ?_
  rintro e w2 ⟨rfl, hb2⟩
  have HE2 : Hid (w2.heap[w.heap.size]? = some (.cells (ip4c tos id df ttl proto s d (.slice O on co)) 26 (0, 0))) := (hb2.block _ (lt_heap HE1.out)).trans HE1.out
  have HB2 : Hid (Below w.heap.size w w2) := HB1.out.trans (hb2.mono HB1.out.size)
  clear hb2 HE1 HB1 HOP ho37
  have HEE := Lib.hid hE
  clear hE
  by_cases hE0 : E = 0
  · subst hE0
    have hon40 : on ≤ 40 := (optE_ok HEE.out.symm).1
    have hlt := lt_heap HE2.out
    have HRS : Hid (∀ x, (∃ W : Stay w2, x = W.w) → x.rangeAt w.heap.size 5 (arr16 s).toList) := fun x hx => arr16_range (stay_blk HE2.out x hx) ip4_src
    have HRD : Hid (∀ x, (∃ W : Stay w2, x = W.w) → x.rangeAt w.heap.size 21 (arr16 d).toList) := fun x hx => arr16_range (stay_blk HE2.out x hx) ip4_dst
    have HAS : Hid (∀ W : Stay w2, Calls Try.prog 20 #[.slice (some ⟨w.heap.size, 5, none⟩) 4 16] W.w fun e w' => e = .returned (.agg (arr16 (adr s))) ∧ Below W.w.heap.size W.w w') := fun W =>
      raddress_any w.heap.size 5 4 16 s (by omega) W.w (Nat.lt_of_lt_of_le hlt W.below.size) fun k hk => (blk_cell (stay_blk HE2.out _ ⟨W, rfl⟩) (5 + k)).trans (ip4_src k (by omega))
    have HAD : Hid (∀ W : Stay w2, Calls Try.prog 20 #[.slice (some ⟨w.heap.size, 21, none⟩) 4 16] W.w fun e w' => e = .returned (.agg (arr16 (adr d))) ∧ Below W.w.heap.size W.w w') := fun W =>
      raddress_any w.heap.size 21 4 16 d (by omega) W.w (Nat.lt_of_lt_of_le hlt W.below.size) fun k hk => (blk_cell (stay_blk HE2.out _ ⟨W, rfl⟩) (21 + k)).trans (ip4_dst k (by omega))
    have hns := neq16 s
    have hnd := neq16 d
    go_wp2_with fail
    cases hbs : fourB s
    · rw [hbs] at hns
      clear hnd
      refine wp_region_stay (by kernel_rfl) (by kernel_rfl) ?_
      repeat (first
        | (refine wpQuiet_load_mid rfl 23 (.tmp 18) rfl w.heap.size 5 rfl (arr16 s) _ HRS.out Try.underlying23 rfl (by kernel_rfl) ?_
           simp only [Act.put, List.setIfInBounds_toArray, List.set_cons_zero, List.set_cons_succ])
        | (refine wpQuiet_load_mid rfl 23 (.tmp 25) rfl w.heap.size 21 rfl (arr16 d) _ HRD.out Try.underlying23 rfl (by kernel_rfl) ?_
           simp only [Act.put, List.setIfInBounds_toArray, List.set_cons_zero, List.set_cons_succ])
        | go_big_quiet_step (first
          | (go_at_call 20; with_reducible exact Calls.stay _ (HAS.out _))
          | (go_at_call 20; with_reducible exact Calls.stay _ (HAD.out _))))
      refine wpQuiet_nil ?_
      intro w' hw'
      obtain ⟨W, rfl⟩ := hw'
      have HE3 : Hid (W.w.heap[w.heap.size]? = some (.cells (ip4c tos id df ttl proto s d (.slice O on co)) 26 (0, 0))) := (W.below.block _ (lt_heap HE2.out)).trans HE2.out
      have HB3 : Hid (Below w.heap.size w W.w) := HB2.out.trans (W.below.mono HB2.out.size)
      clear HRS HRD HAS HAD
      go_wp2_with fail
      go_ret2
      first
          | exact .inr (.inl ⟨rfl, rfl, none, 0, rfl, Own.nil_ _ _ _ _, HB3.out⟩)
          | exact ⟨none, 0, rfl, Own.nil_ _ _ _ _, HB3.out⟩
    · rw [hbs] at hns
      cases hbd : fourB d
      · rw [hbd] at hnd
        refine wp_region_stay (by kernel_rfl) (by kernel_rfl) ?_
        repeat (first
          | (refine wpQuiet_load_mid rfl 23 (.tmp 18) rfl w.heap.size 5 rfl (arr16 s) _ HRS.out Try.underlying23 rfl (by kernel_rfl) ?_
             simp only [Act.put, List.setIfInBounds_toArray, List.set_cons_zero, List.set_cons_succ])
          | (refine wpQuiet_load_mid rfl 23 (.tmp 25) rfl w.heap.size 21 rfl (arr16 d) _ HRD.out Try.underlying23 rfl (by kernel_rfl) ?_
             simp only [Act.put, List.setIfInBounds_toArray, List.set_cons_zero, List.set_cons_succ])
          | go_big_quiet_step (first
            | (go_at_call 20; with_reducible exact Calls.stay _ (HAS.out _))
            | (go_at_call 20; with_reducible exact Calls.stay _ (HAD.out _))))
        refine wpQuiet_nil ?_
        intro w' hw'
        obtain ⟨W, rfl⟩ := hw'
        have HE3 : Hid (W.w.heap[w.heap.size]? = some (.cells (ip4c tos id df ttl proto s d (.slice O on co)) 26 (0, 0))) := (W.below.block _ (lt_heap HE2.out)).trans HE2.out
        have HB3 : Hid (Below w.heap.size w W.w) := HB2.out.trans (W.below.mono HB2.out.size)
        clear HRS HRD HAS HAD
        go_wp2_with fail
        go_ret2
        first
          | exact .inr (.inl ⟨rfl, rfl, none, 0, rfl, Own.nil_ _ _ _ _, HB3.out⟩)
          | exact ⟨none, 0, rfl, Own.nil_ _ _ _ _, HB3.out⟩
      · rw [hbd] at hnd
        refine wp_region_stay (by kernel_rfl) (by kernel_rfl) ?_
        repeat (first
          | (refine wpQuiet_load_mid rfl 23 (.tmp 18) rfl w.heap.size 5 rfl (arr16 s) _ HRS.out Try.underlying23 rfl (by kernel_rfl) ?_
             simp only [Act.put, List.setIfInBounds_toArray, List.set_cons_zero, List.set_cons_succ])
          | (refine wpQuiet_load_mid rfl 23 (.tmp 25) rfl w.heap.size 21 rfl (arr16 d) _ HRD.out Try.underlying23 rfl (by kernel_rfl) ?_
             simp only [Act.put, List.setIfInBounds_toArray, List.set_cons_zero, List.set_cons_succ])
          | go_big_quiet_step (first
            | (go_at_call 20; with_reducible exact Calls.stay _ (HAS.out _))
            | (go_at_call 20; with_reducible exact Calls.stay _ (HAD.out _))))
        refine wpQuiet_nil ?_
        intro w' hw'
        obtain ⟨W, rfl⟩ := hw'
        have HE3 : Hid (W.w.heap[w.heap.size]? = some (.cells (ip4c tos id df ttl proto s d (.slice O on co)) 26 (0, 0))) := (W.below.block _ (lt_heap HE2.out)).trans HE2.out
        have HB3 : Hid (Below w.heap.size w W.w) := HB2.out.trans (W.below.mono HB2.out.size)
        clear HRS HRD HAS HAD
        clear hns hnd
        have W37 : W.w.cell? ⟨w.heap.size, 37, none⟩ = some (.slice O on co) := blk_cell HE3.out 37
        by_cases hlong : 1660 < 20 + on + n
        · go_wp2_with fail
          go_ret2
          first
            | exact .inr (.inr (.inl ⟨rfl, rfl, hlong, none, 0, rfl, Own.nil_ _ _ _ _, HB3.out⟩))
            | exact .inl ⟨hlong, none, 0, rfl, Own.nil_ _ _ _ _, HB3.out⟩
            | exact .inl ⟨none, 0, rfl, Own.nil_ _ _ _ _, HB3.out⟩
            | exact ⟨none, 0, rfl, Own.nil_ _ _ _ _, HB3.out⟩
        · have w0 : W.w.cell? ⟨w.heap.size, 0, none⟩ = some (.int .u8 tos) := blk_cell HE3.out 0
          have w1' : W.w.cell? ⟨w.heap.size, 1, none⟩ = some (.int .u16 id) := blk_cell HE3.out 1
          have w2' : W.w.cell? ⟨w.heap.size, 2, none⟩ = some (.bool df) := blk_cell HE3.out 2
          have w3' : W.w.cell? ⟨w.heap.size, 3, none⟩ = some (.int .u8 ttl) := blk_cell HE3.out 3
          have w4' : W.w.cell? ⟨w.heap.size, 4, none⟩ = some (.int .u8 proto) := blk_cell HE3.out 4
          have q1 : (20 + (on : Int)).tdiv 4 = (20 + (on : Int)) / 4 := Int.tdiv_eq_ediv_of_nonneg (by omega)
          have q2 : (20 + (on : Int) + (n : Int)).tdiv 256 = (20 + (on : Int) + (n : Int)) / 256 := Int.tdiv_eq_ediv_of_nonneg (by omega)
          have q3 : (20 + (on : Int) + (n : Int)).tmod 256 = (20 + (on : Int) + (n : Int)) % 256 := Int.tmod_eq_emod_of_nonneg (by omega)
          have q4 : id.tdiv 256 = id / 256 := Int.tdiv_eq_ediv_of_nonneg (by omega)
          have q5 : id.tmod 256 = id % 256 := Int.tmod_eq_emod_of_nonneg (by omega)
          obtain ⟨h2a, h2b⟩ := h2
          cases df
          · go_upto_region 14 with fail
            have hcells : (#[.int .u8 (64 + (20 + (on : Int)) / 4), .int .u8 tos, .int .u8 ((20 + (on : Int) + (n : Int)) / 256), .int .u8 ((20 + (on : Int) + (n : Int)) % 256), .int .u8 (id / 256), .int .u8 (id % 256), .int .u8 0, .int .u8 0, .int .u8 ttl, .int .u8 proto, .int .u8 0, .int .u8 0] : Array Value).toList = (nums 12 (hdr0 tos id false ttl proto s d on fo (20 + on + n))).map (Value.int .u8) := by rw [hdr0_12]; rfl
            have HO4 : Hid (Own (W.w.alloc (.cells #[.int .u8 (64 + (20 + (on : Int)) / 4), .int .u8 tos, .int .u8 ((20 + (on : Int) + (n : Int)) / 256), .int .u8 ((20 + (on : Int) + (n : Int)) % 256), .int .u8 (id / 256), .int .u8 (id % 256), .int .u8 0, .int .u8 0, .int .u8 ttl, .int .u8 proto, .int .u8 0, .int .u8 0] 5)) (w.heap.size + 1) 5 (some ⟨W.w.heap.size, 0, none⟩) 12 12 (hdr0 tos id false ttl proto s d on fo (20 + on + n))) := own_new 12 _ (lt_heap HE3.out) (by omega) hcells _ rfl
            have HB4 : Hid (Below w.heap.size w (W.w.alloc (.cells #[.int .u8 (64 + (20 + (on : Int)) / 4), .int .u8 tos, .int .u8 ((20 + (on : Int) + (n : Int)) / 256), .int .u8 ((20 + (on : Int) + (n : Int)) % 256), .int .u8 (id / 256), .int .u8 (id % 256), .int .u8 0, .int .u8 0, .int .u8 ttl, .int .u8 proto, .int .u8 0, .int .u8 0] 5))) := HB3.out.alloc HB3.out.size _
            have HE4 : Hid ((W.w.alloc (.cells #[.int .u8 (64 + (20 + (on : Int)) / 4), .int .u8 tos, .int .u8 ((20 + (on : Int) + (n : Int)) / 256), .int .u8 ((20 + (on : Int) + (n : Int)) % 256), .int .u8 (id / 256), .int .u8 (id % 256), .int .u8 0, .int .u8 0, .int .u8 ttl, .int .u8 proto, .int .u8 0, .int .u8 0] 5)).heap[w.heap.size]? = some (.cells (ip4c tos id false ttl proto s d (.slice O on co)) 26 (0, 0))) := blk_old HE3.out _
            clear HE3 HB3 hcells w0 w1' w2' w3' w4' W37
            generalize W.w.alloc (.cells #[.int .u8 (64 + (20 + (on : Int)) / 4), .int .u8 tos, .int .u8 ((20 + (on : Int) + (n : Int)) / 256), .int .u8 ((20 + (on : Int) + (n : Int)) % 256), .int .u8 (id / 256), .int .u8 (id % 256), .int .u8 0, .int .u8 0, .int .u8 ttl, .int .u8 proto, .int .u8 0, .int .u8 0] 5) = w4 at *
            have hRs : Rd w4 (w.heap.size + 1) (some ⟨w.heap.size, 5, none⟩) 4 s := blk_rd HE4.out (Nat.lt_succ_self _) fun k hk => ip4_src k (by omega)
            have HRd0 : Hid (Rd w4 (w.heap.size + 1) (some ⟨w.heap.size, 21, none⟩) 4 d) := blk_rd HE4.out (Nat.lt_succ_self _) fun k hk => ip4_dst k (by omega)
            have HRs := Lib.hid hRs
            have hs4 : w.heap.size + 1 ≤ w4.heap.size := lt_heap HE4.out
            clear hRs
            go_region_held3 (fun _ => True) (trivial)
              (first
              | (refine step_append_rd rfl (.tmp 70) (.tmp 72) _ rfl (w.heap.size + 1) 5 i0 Try.underlying24 HI0.out HZ0.out HZ1.out HZ2.out rfl HO4.out.drew rfl HRs.out.drew (by omega) hs4 ?_
                 intro A5 c5 w5 hown5 hg5
                 have HO5 := Lib.hid hown5
                 have HE5 := Lib.hid ((hg5.block w.heap.size (by simpa using lt_heap HE4.out) (fun e => absurd (HO4.out.at_ _ e.symm) (Nat.not_succ_le_self _))).trans HE4.out)
                 have HB5 : Hid (Below w.heap.size w w5) := HB4.out.drew.grown hg5 HB4.out.size (fun k hk => Nat.le_of_succ_le (HO4.out.at_ k hk))
                 have hs5 : w.heap.size + 1 ≤ w5.heap.size := Nat.le_trans hs4 hg5.size
                 clear hown5 hg5)
              | (refine step_append_rd rfl (.tmp 73) (.tmp 75) _ rfl (w.heap.size + 1) 5 i0 Try.underlying24 HI0.out HZ0.out HZ1.out HZ2.out rfl HO5.out rfl (blk_rd HE5.out (Nat.lt_succ_self _) fun k hk => ip4_dst k (by omega)) (by omega) hs5 ?_
                 intro A6 c6 w6 hown6 hg6
                 have HO6 := Lib.hid hown6
                 have HE6 := Lib.hid ((hg6.block w.heap.size (by have := hs5; omega) (fun e => absurd (HO5.out.at_ _ e.symm) (Nat.not_succ_le_self _))).trans HE5.out)
                 have HB6 : Hid (Below w.heap.size w w6) := HB5.out.grown hg6 HB5.out.size (fun k hk => Nat.le_of_succ_le (HO5.out.at_ k hk))
                 have hs6 : w.heap.size + 1 ≤ w6.heap.size := Nat.le_trans hs5 hg6.size
                 clear hown6 hg6))
            have w37 : w6.cell? ⟨w.heap.size, 37, none⟩ = some (.slice O on co) := blk_cell HE6.out 37
            have HO6' : Hid (Own w6 (w.heap.size + 1) 5 A6 20 c6 (cat 16 (cat 12 (hdr0 tos id false ttl proto s d on fo (20 + on + n)) s) d)) := HO6.out
            clear HO4 HE4 HB4 hs4 HO5 HE5 HB5 hs5 HRs HRd0 HO6
            go_wp2_with (first
              | (at_builtin
                 refine wpList_append_rd rfl (.tmp 77) (.tmp 79) _ rfl (w.heap.size + 1) 5 i0 Try.underlying24 HI0.out HZ0.out HZ1.out HZ2.out rfl HO6'.out rfl (HRO.out.keep HB6.out) (by omega) hs6 ?_
                 intro A7 c7 w7 hown7 hg7 _
                 have HO7 : Hid (Own w7 (w.heap.size + 1) 5 A7 (20 + on) c7 (hdr0 tos id false ttl proto s d on fo (20 + on + n))) := hown7.same fun k hk => hdr0_cat tos id false ttl proto s d on fo _ k hk
                 have HB7 : Hid (Below w.heap.size w w7) := HB6.out.grown hg7 HB6.out.size (fun k hk => Nat.le_of_succ_le (HO6'.out.at_ k hk))
                 have hs7 : w.heap.size + 1 ≤ w7.heap.size := Nat.le_trans hs6 hg7.size
                 clear hown7 hg7))
            have HBY : Hid (Byt (hdr0 tos id false ttl proto s d on fo (20 + on + n))) := hdr0_byt h1 ⟨h2a, h2b⟩ h3 h4 HS.out HD.out HFO.out hon40 (by omega)
            have HOF := Lib.hid (rof_any A7 (20 + on) c7 _ HBY.out (by omega) w7 HO7.out.rd)
            obtain ⟨C, hC⟩ : ∃ C, C = ofv (hdr0 tos id false ttl proto s d on fo (20 + on + n)) (20 + on) := ⟨_, rfl⟩
            rw [← hC] at HOF
            have hCb := ofv_bd HBY.out (20 + on)
            rw [← hC] at hCb
            obtain ⟨hC0, hC1⟩ := hCb
            have HCC := Lib.hid hC
            clear hC HO6' HE6 HB6 w37
            go_at_call 18
            refine HOF.out.mono ?_
            rintro e w8 ⟨rfl, hb8⟩
            have HO8 := Lib.hid (HO7.out.below hb8)
            have HB8 : Hid (Below w.heap.size w w8) := HB7.out.trans (hb8.mono HB7.out.size)
            have hs8 : w.heap.size + 1 ≤ w8.heap.size := Nat.le_trans hs7 hb8.size
            clear hb8 HO7 HB7 HOF
            obtain ⟨g, hAe, hgb, _, hcell, hfree⟩ := HO8.out.lies (by omega)
            subst hAe
            have hc10 := hcell 10 (by omega)
            have hc11 := hcell 11 (by omega)
            have hf10 := hfree 10
            have hf11 := hfree 11
            clear hcell hfree
            have HO9 : Hid (Own ((w8.setCell ⟨g, 10, none⟩ (.int .u8 (C / 256))).setCell ⟨g, 11, none⟩ (.int .u8 (C % 256))) (w.heap.size + 1) 5 (some ⟨g, 0, none⟩) (20 + on) c7 (hdr4 tos id false ttl proto s d on fo (20 + on + n))) := by
              have q := (HO8.out.set_ 10 (C / 256)).set_ 11 (C % 256)
              rw [HCC.out] at q ⊢
              exact q
            have HB9 : Hid (Below w.heap.size w ((w8.setCell ⟨g, 10, none⟩ (.int .u8 (C / 256))).setCell ⟨g, 11, none⟩ (.int .u8 (C % 256)))) := (HB8.out.setCell (by show w.heap.size ≤ g; omega) _).setCell (by show w.heap.size ≤ g; omega) _
            have hs9 : w.heap.size + 1 ≤ ((w8.setCell ⟨g, 10, none⟩ (.int .u8 (C / 256))).setCell ⟨g, 11, none⟩ (.int .u8 (C % 256))).heap.size := by simpa using hs8
            have hq1 : IntKind.u16.wrap (C.tdiv 256) = C / 256 := by
              rw [Int.tdiv_eq_ediv_of_nonneg hC0]
              simp only [IntKind.wrap_u16]
              omega
            have hq2 : C / 256 % 256 = C / 256 := by omega
            have i10 : (10 : Int) < 20 + (on : Int) := by omega
            have i11 : (11 : Int) < 20 + (on : Int) := by omega
            have hcast : (((20 + on : Nat)) : Int) = 20 + (on : Int) := by omega
            go_wp2_with (first
              | (at_builtin
                 refine wpList_append_rd rfl (.tmp 93) (.tmp 94) _ rfl (w.heap.size + 1) 5 i0 Try.underlying24 HI0.out HZ0.out HZ1.out HZ2.out rfl HO9.out rfl (HR.out.keep HB9.out) (by omega) hs9 ?_
                 intro A10 c10 w10 hown10 hg10 _
                 have HO10 := Lib.hid hown10
                 have HB10 : Hid (Below w.heap.size w w10) := HB9.out.grown hg10 HB9.out.size (fun k hk => Nat.le_of_succ_le (HO9.out.at_ k hk))
                 clear hown10 hg10))
            go_ret2
            first
            | exact .inr (.inr (.inr ⟨rfl, rfl, by omega, A10, c10, rfl, HO10.out.le (Nat.le_succ _), HB10.out⟩))
            | exact ⟨by omega, A10, c10, rfl, HO10.out.le (Nat.le_succ _), HB10.out⟩
            | exact .inr ⟨by omega, A10, c10, rfl, HO10.out.le (Nat.le_succ _), HB10.out⟩
            | exact .inr ⟨A10, c10, rfl, HO10.out.le (Nat.le_succ _), HB10.out⟩
            | exact ⟨A10, c10, rfl, HO10.out.le (Nat.le_succ _), HB10.out⟩
          · go_upto_region 14 with fail
            have hcells : (#[.int .u8 (64 + (20 + (on : Int)) / 4), .int .u8 tos, .int .u8 ((20 + (on : Int) + (n : Int)) / 256), .int .u8 ((20 + (on : Int) + (n : Int)) % 256), .int .u8 (id / 256), .int .u8 (id % 256), .int .u8 64, .int .u8 0, .int .u8 ttl, .int .u8 proto, .int .u8 0, .int .u8 0] : Array Value).toList = (nums 12 (hdr0 tos id true ttl proto s d on fo (20 + on + n))).map (Value.int .u8) := by rw [hdr0_12]; rfl
            have HO4 : Hid (Own (W.w.alloc (.cells #[.int .u8 (64 + (20 + (on : Int)) / 4), .int .u8 tos, .int .u8 ((20 + (on : Int) + (n : Int)) / 256), .int .u8 ((20 + (on : Int) + (n : Int)) % 256), .int .u8 (id / 256), .int .u8 (id % 256), .int .u8 64, .int .u8 0, .int .u8 ttl, .int .u8 proto, .int .u8 0, .int .u8 0] 5)) (w.heap.size + 1) 5 (some ⟨W.w.heap.size, 0, none⟩) 12 12 (hdr0 tos id true ttl proto s d on fo (20 + on + n))) := own_new 12 _ (lt_heap HE3.out) (by omega) hcells _ rfl
            have HB4 : Hid (Below w.heap.size w (W.w.alloc (.cells #[.int .u8 (64 + (20 + (on : Int)) / 4), .int .u8 tos, .int .u8 ((20 + (on : Int) + (n : Int)) / 256), .int .u8 ((20 + (on : Int) + (n : Int)) % 256), .int .u8 (id / 256), .int .u8 (id % 256), .int .u8 64, .int .u8 0, .int .u8 ttl, .int .u8 proto, .int .u8 0, .int .u8 0] 5))) := HB3.out.alloc HB3.out.size _
            have HE4 : Hid ((W.w.alloc (.cells #[.int .u8 (64 + (20 + (on : Int)) / 4), .int .u8 tos, .int .u8 ((20 + (on : Int) + (n : Int)) / 256), .int .u8 ((20 + (on : Int) + (n : Int)) % 256), .int .u8 (id / 256), .int .u8 (id % 256), .int .u8 64, .int .u8 0, .int .u8 ttl, .int .u8 proto, .int .u8 0, .int .u8 0] 5)).heap[w.heap.size]? = some (.cells (ip4c tos id true ttl proto s d (.slice O on co)) 26 (0, 0))) := blk_old HE3.out _
            clear HE3 HB3 hcells w0 w1' w2' w3' w4' W37
            generalize W.w.alloc (.cells #[.int .u8 (64 + (20 + (on : Int)) / 4), .int .u8 tos, .int .u8 ((20 + (on : Int) + (n : Int)) / 256), .int .u8 ((20 + (on : Int) + (n : Int)) % 256), .int .u8 (id / 256), .int .u8 (id % 256), .int .u8 64, .int .u8 0, .int .u8 ttl, .int .u8 proto, .int .u8 0, .int .u8 0] 5) = w4 at *
            have hRs : Rd w4 (w.heap.size + 1) (some ⟨w.heap.size, 5, none⟩) 4 s := blk_rd HE4.out (Nat.lt_succ_self _) fun k hk => ip4_src k (by omega)
            have HRd0 : Hid (Rd w4 (w.heap.size + 1) (some ⟨w.heap.size, 21, none⟩) 4 d) := blk_rd HE4.out (Nat.lt_succ_self _) fun k hk => ip4_dst k (by omega)
            have HRs := Lib.hid hRs
            have hs4 : w.heap.size + 1 ≤ w4.heap.size := lt_heap HE4.out
            clear hRs
            go_region_held3 (fun _ => True) (trivial)
              (first
              | (refine step_append_rd rfl (.tmp 70) (.tmp 72) _ rfl (w.heap.size + 1) 5 i0 Try.underlying24 HI0.out HZ0.out HZ1.out HZ2.out rfl HO4.out.drew rfl HRs.out.drew (by omega) hs4 ?_
                 intro A5 c5 w5 hown5 hg5
                 have HO5 := Lib.hid hown5
                 have HE5 := Lib.hid ((hg5.block w.heap.size (by simpa using lt_heap HE4.out) (fun e => absurd (HO4.out.at_ _ e.symm) (Nat.not_succ_le_self _))).trans HE4.out)
                 have HB5 : Hid (Below w.heap.size w w5) := HB4.out.drew.grown hg5 HB4.out.size (fun k hk => Nat.le_of_succ_le (HO4.out.at_ k hk))
                 have hs5 : w.heap.size + 1 ≤ w5.heap.size := Nat.le_trans hs4 hg5.size
                 clear hown5 hg5)
              | (refine step_append_rd rfl (.tmp 73) (.tmp 75) _ rfl (w.heap.size + 1) 5 i0 Try.underlying24 HI0.out HZ0.out HZ1.out HZ2.out rfl HO5.out rfl (blk_rd HE5.out (Nat.lt_succ_self _) fun k hk => ip4_dst k (by omega)) (by omega) hs5 ?_
                 intro A6 c6 w6 hown6 hg6
                 have HO6 := Lib.hid hown6
                 have HE6 := Lib.hid ((hg6.block w.heap.size (by have := hs5; omega) (fun e => absurd (HO5.out.at_ _ e.symm) (Nat.not_succ_le_self _))).trans HE5.out)
                 have HB6 : Hid (Below w.heap.size w w6) := HB5.out.grown hg6 HB5.out.size (fun k hk => Nat.le_of_succ_le (HO5.out.at_ k hk))
                 have hs6 : w.heap.size + 1 ≤ w6.heap.size := Nat.le_trans hs5 hg6.size
                 clear hown6 hg6))
            have w37 : w6.cell? ⟨w.heap.size, 37, none⟩ = some (.slice O on co) := blk_cell HE6.out 37
            have HO6' : Hid (Own w6 (w.heap.size + 1) 5 A6 20 c6 (cat 16 (cat 12 (hdr0 tos id true ttl proto s d on fo (20 + on + n)) s) d)) := HO6.out
            clear HO4 HE4 HB4 hs4 HO5 HE5 HB5 hs5 HRs HRd0 HO6
            go_wp2_with (first
              | (at_builtin
                 refine wpList_append_rd rfl (.tmp 77) (.tmp 79) _ rfl (w.heap.size + 1) 5 i0 Try.underlying24 HI0.out HZ0.out HZ1.out HZ2.out rfl HO6'.out rfl (HRO.out.keep HB6.out) (by omega) hs6 ?_
                 intro A7 c7 w7 hown7 hg7 _
                 have HO7 : Hid (Own w7 (w.heap.size + 1) 5 A7 (20 + on) c7 (hdr0 tos id true ttl proto s d on fo (20 + on + n))) := hown7.same fun k hk => hdr0_cat tos id true ttl proto s d on fo _ k hk
                 have HB7 : Hid (Below w.heap.size w w7) := HB6.out.grown hg7 HB6.out.size (fun k hk => Nat.le_of_succ_le (HO6'.out.at_ k hk))
                 have hs7 : w.heap.size + 1 ≤ w7.heap.size := Nat.le_trans hs6 hg7.size
                 clear hown7 hg7))
            have HBY : Hid (Byt (hdr0 tos id true ttl proto s d on fo (20 + on + n))) := hdr0_byt h1 ⟨h2a, h2b⟩ h3 h4 HS.out HD.out HFO.out hon40 (by omega)
            have HOF := Lib.hid (rof_any A7 (20 + on) c7 _ HBY.out (by omega) w7 HO7.out.rd)
            obtain ⟨C, hC⟩ : ∃ C, C = ofv (hdr0 tos id true ttl proto s d on fo (20 + on + n)) (20 + on) := ⟨_, rfl⟩
            rw [← hC] at HOF
            have hCb := ofv_bd HBY.out (20 + on)
            rw [← hC] at hCb
            obtain ⟨hC0, hC1⟩ := hCb
            have HCC := Lib.hid hC
            clear hC HO6' HE6 HB6 w37
            go_at_call 18
            refine HOF.out.mono ?_
            rintro e w8 ⟨rfl, hb8⟩
            have HO8 := Lib.hid (HO7.out.below hb8)
            have HB8 : Hid (Below w.heap.size w w8) := HB7.out.trans (hb8.mono HB7.out.size)
            have hs8 : w.heap.size + 1 ≤ w8.heap.size := Nat.le_trans hs7 hb8.size
            clear hb8 HO7 HB7 HOF
            obtain ⟨g, hAe, hgb, _, hcell, hfree⟩ := HO8.out.lies (by omega)
            subst hAe
            have hc10 := hcell 10 (by omega)
            have hc11 := hcell 11 (by omega)
            have hf10 := hfree 10
            have hf11 := hfree 11
            clear hcell hfree
            have HO9 : Hid (Own ((w8.setCell ⟨g, 10, none⟩ (.int .u8 (C / 256))).setCell ⟨g, 11, none⟩ (.int .u8 (C % 256))) (w.heap.size + 1) 5 (some ⟨g, 0, none⟩) (20 + on) c7 (hdr4 tos id true ttl proto s d on fo (20 + on + n))) := by
              have q := (HO8.out.set_ 10 (C / 256)).set_ 11 (C % 256)
              rw [HCC.out] at q ⊢
              exact q
            have HB9 : Hid (Below w.heap.size w ((w8.setCell ⟨g, 10, none⟩ (.int .u8 (C / 256))).setCell ⟨g, 11, none⟩ (.int .u8 (C % 256)))) := (HB8.out.setCell (by show w.heap.size ≤ g; omega) _).setCell (by show w.heap.size ≤ g; omega) _
            have hs9 : w.heap.size + 1 ≤ ((w8.setCell ⟨g, 10, none⟩ (.int .u8 (C / 256))).setCell ⟨g, 11, none⟩ (.int .u8 (C % 256))).heap.size := by simpa using hs8
            have hq1 : IntKind.u16.wrap (C.tdiv 256) = C / 256 := by
              rw [Int.tdiv_eq_ediv_of_nonneg hC0]
              simp only [IntKind.wrap_u16]
              omega
            have hq2 : C / 256 % 256 = C / 256 := by omega
            have i10 : (10 : Int) < 20 + (on : Int) := by omega
            have i11 : (11 : Int) < 20 + (on : Int) := by omega
            have hcast : (((20 + on : Nat)) : Int) = 20 + (on : Int) := by omega
            go_wp2_with (first
              | (at_builtin
                 refine wpList_append_rd rfl (.tmp 93) (.tmp 94) _ rfl (w.heap.size + 1) 5 i0 Try.underlying24 HI0.out HZ0.out HZ1.out HZ2.out rfl HO9.out rfl (HR.out.keep HB9.out) (by omega) hs9 ?_
                 intro A10 c10 w10 hown10 hg10 _
                 have HO10 := Lib.hid hown10
                 have HB10 : Hid (Below w.heap.size w w10) := HB9.out.grown hg10 HB9.out.size (fun k hk => Nat.le_of_succ_le (HO9.out.at_ k hk))
                 clear hown10 hg10))
            go_ret2
            first
            | exact .inr (.inr (.inr ⟨rfl, rfl, by omega, A10, c10, rfl, HO10.out.le (Nat.le_succ _), HB10.out⟩))
            | exact ⟨by omega, A10, c10, rfl, HO10.out.le (Nat.le_succ _), HB10.out⟩
            | exact .inr ⟨by omega, A10, c10, rfl, HO10.out.le (Nat.le_succ _), HB10.out⟩
            | exact .inr ⟨A10, c10, rfl, HO10.out.le (Nat.le_succ _), HB10.out⟩
            | exact ⟨A10, c10, rfl, HO10.out.le (Nat.le_succ _), HB10.out⟩
  · have hE0' : (E != 0) = true := by simpa using hE0
    go_wp2_with fail
    go_ret2
    exact .inl ⟨hE0, none, 0, rfl, Own.nil_ _ _ _ _, HB2.out⟩
end Go.Proofs.Ytmmmednghdnhnaa
