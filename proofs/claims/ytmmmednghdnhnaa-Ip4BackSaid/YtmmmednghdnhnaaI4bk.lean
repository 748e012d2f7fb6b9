/- Ip4Back, walked. -/
import Derived.Test.YtmmmednghdnhnaaI4k
import Derived.Test.YtmmmednghdnhnaaGrow
namespace Go.Proofs.Ytmmmednghdnhnaa
open Go.RowKit
/-- A whole struct, loaded behind a guard or not. -/
theorem wpList_load_roww {P : Program} {ops : Array Oper} {rest : List Oper} {op : Oper} {a : Act} {w : World} {Q : Exit → Act → World → Prop} (hw : Region.wanted op (yielded ops a.tmps) = true) (ty : TypeId) (x : Operand) (ho : op.op = .load ty x)
    (g : Nat) (hx : a.eval x = .pointer (some ⟨g, 0, none⟩)) (t : TypeId) (cs : Array Value) (fr : Nat × Nat) (d : TypeDesc) (hg : w.heap[g]? = some (.cells cs t fr)) (hu : P.underlying ty = some d)
    (hd : (match d with | .struct _ | .array _ _ => true | _ => false) = true) (hi : (P.info? ty).map (·.size) = some cs.size) (h : wpList P ops Q rest (a.put op.dst (.agg cs)) w) : wpList P ops Q (op :: rest) a w := by
  refine BigFrame.wpList_want hw fun K hK => ?_
  unfold Oper.wp execOp
  simp only [ho, hx, Instr.loadAt, Instr.sureAddr, Sem.run_bind, Sem.run_pure, Result.andThen_ok, run_loadVar_row w g t ty cs fr d hg hu hd hi]
  exact hK _ _ h
theorem wr4_both {base et : Nat} {E : Int} {ok : Bool} {m : Nat} {g : Nat → Int} {w : World} {e : Ending} {w' : World} (h : Wr4 base et E ok m g w e w') :
    ∃ U mu cu X gu, e = .returned (.tuple #[.slice U mu cu, .int .i64 X]) ∧ Own w' base et U mu cu gu ∧ Below base w w' ∧ ((X = 0 ∧ E = 0 ∧ ok = true ∧ m ≤ 1660 ∧ mu = m ∧ gu = g) ∨ (X ≠ 0 ∧ mu = 0 ∧ (E = 0 → ok = true → X = 3 ∧ 1660 < m))) := by
  rcases h with ⟨h, U, cu, he, hu, hb⟩ | ⟨hE, ho, U, cu, he, hu, hb⟩ | ⟨hE, ho, hl, U, cu, he, hu, hb⟩ | ⟨hE, ho, hl, U, cu, he, hu, hb⟩
  · exact ⟨U, 0, cu, E, _, he, hu, hb, .inr ⟨h, rfl, fun h' => absurd h' h⟩⟩
  · exact ⟨U, 0, cu, 2, _, he, hu, hb, .inr ⟨by decide, rfl, fun _ h' => by rw [ho] at h'; cases h'⟩⟩
  · exact ⟨U, 0, cu, 3, _, he, hu, hb, .inr ⟨by decide, rfl, fun _ _ => ⟨rfl, hl⟩⟩⟩
  · exact ⟨U, m, cu, 0, g, he, hu, hb, .inl ⟨rfl, hE, ho, hl, rfl, rfl⟩⟩
theorem ip4c_congr {tos id : Int} {df : Bool} {ttl proto : Int} {s s' d d' : Nat → Int} {o : Value} (hs : ∀ k, k < 16 → s k = s' k) (hd : ∀ k, k < 16 → d k = d' k) : ip4c tos id df ttl proto s d o = ip4c tos id df ttl proto s' d' o := by
  unfold ip4c
  rw [hs 0 (by omega), hs 1 (by omega), hs 2 (by omega), hs 3 (by omega), hs 4 (by omega), hs 5 (by omega), hs 6 (by omega), hs 7 (by omega), hs 8 (by omega), hs 9 (by omega), hs 10 (by omega), hs 11 (by omega), hs 12 (by omega), hs 13 (by omega), hs 14 (by omega), hs 15 (by omega),
    hd 0 (by omega), hd 1 (by omega), hd 2 (by omega), hd 3 (by omega), hd 4 (by omega), hd 5 (by omega), hd 6 (by omega), hd 7 (by omega), hd 8 (by omega), hd 9 (by omega), hd 10 (by omega), hd 11 (by omega), hd 12 (by omega), hd 13 (by omega), hd 14 (by omega), hd 15 (by omega)]
theorem fourB_spec {s : Nat → Int} (h : fourB s = true) : ∀ k, k < 16 → s k = adr s k := fun k hk => (eqs_iff s (adr s) 16 0).1 h k (Nat.zero_le _) (by omega)
theorem fourB_adr (s : Nat → Int) : fourB (adr s) = true := by
  unfold fourB
  rw [eqs_iff]
  intro k _ _
  unfold adr
  split <;> rfl
theorem adr_byt {s : Nat → Int} (h : Byt s) : Byt (adr s) := fun k => by
  unfold adr
  split
  · exact h k
  · omega
/-- What is read of a written packet with more behind it: the same header, the same payload. -/
theorem back_read {tos id : Int} {df : Bool} {ttl proto : Int} {s d : Nat → Int} {on : Nat} {fo : Nat → Int} {n : Nat} {f g : Nat → Int} {N : Nat} (h1 : 0 ≤ tos ∧ tos ≤ 255) (h2 : 0 ≤ id ∧ id ≤ 65535) (h3 : 0 ≤ ttl ∧ ttl ≤ 255) (h4 : 0 ≤ proto ∧ proto ≤ 255) (hs : Byt s) (hd : Byt d) (hfo : Byt fo)
    (hE : optE fo on = 0) (hl : 20 + on + n ≤ 1660) (ha : fourB s = true) (hb : fourB d = true) (hg : Byt g) (hN : 20 + on + n ≤ N) (hh : ∀ k, k < 20 + on → g k = hdr4 tos id df ttl proto s d on fo (20 + on + n) k) (hp : ∀ k, k < n → g (20 + on + k) = f k) :
    rd4E g N = 0 ∧ hl4 g = 20 + on ∧ tl4 g = 20 + on + n ∧ (∀ o, ip4c (g 1) (g 4 * 256 + g 5) (decide (16384 ≤ g 6 * 256 + g 7)) (g 8) (g 9) (adr fun k => g (12 + k)) (adr fun k => g (16 + k)) o = ip4c tos id df ttl proto s d o) ∧ (∀ k, k < on → g (20 + k) = fo k) := by
  obtain ⟨a1, a2, a3, a4, a5, a6, a7, a8, a9, a10, a11⟩ := hdr4_read (df := df) h1 h2 h3 h4 hs hd hfo hE (show 20 + on + n ≤ 65535 by omega) (by omega) hg N hN hh
  refine ⟨a1, a2, a3, fun o => ?_, a11⟩
  rw [a4, a5, a6, a7, a8]
  refine ip4c_congr (fun k hk => ?_) (fun k hk => ?_)
  · rw [fourB_spec ha k hk]
    unfold adr
    split
    · rename_i h; exact a9 k h
    · rfl
  · rw [fourB_spec hb k hk]
    unfold adr
    split
    · rename_i h; exact a10 k h
    · rfl
/-- What was read, as it is written: its bytes, but for a sum of 65535. -/
def zap (f : Nat → Int) : Nat → Int := if f 10 = 255 ∧ f 11 = 255 then upd (upd f 10 0) 11 0 else f
theorem back_write {f : Nat → Int} (hf : Byt f) {n : Nat} (h : rd4E f n = 0) (g : Nat → Int) (hg : ∀ k, k < tl4 f - hl4 f → g k = f (hl4 f + k)) (o : Nat → Int) (ho : ∀ k, k < hl4 f - 20 → o k = f (20 + k)) (k : Nat) (hk : k < tl4 f) :
    cat (20 + (hl4 f - 20)) (hdr4 (f 1) (f 4 * 256 + f 5) (decide (16384 ≤ f 6 * 256 + f 7)) (f 8) (f 9) (adr fun k => f (12 + k)) (adr fun k => f (16 + k)) (hl4 f - 20) o (20 + (hl4 f - 20) + (tl4 f - hl4 f))) g k = zap f k := by
  obtain ⟨a1, a2, a3, a4, _⟩ := rd4_ok hf h
  rw [show 20 + (hl4 f - 20) = hl4 f by omega, show hl4 f + (tl4 f - hl4 f) = tl4 f by omega]
  have hz : ∀ k, zap f k = if f 10 = 255 ∧ f 11 = 255 ∧ (k = 10 ∨ k = 11) then 0 else f k := fun k => by
    unfold zap
    by_cases q : f 10 = 255 ∧ f 11 = 255
    · rw [if_pos q]
      unfold upd
      by_cases k11 : k = 11
      · rw [if_pos k11, if_pos ⟨q.1, q.2, .inr k11⟩]
      · rw [if_neg k11]
        by_cases k10 : k = 10
        · rw [if_pos k10, if_pos ⟨q.1, q.2, .inl k10⟩]
        · rw [if_neg k10, if_neg (fun h => by omega)]
    · rw [if_neg q, if_neg (fun h => q ⟨h.1, h.2.1⟩)]
  rw [hz]
  unfold cat
  by_cases hlt : k < hl4 f
  · rw [if_pos hlt]
    exact rd4_write hf h _ _ o (fun k hk => by unfold adr; rw [if_pos hk]) (fun k hk => by unfold adr; rw [if_pos hk]) ho k hlt
  · rw [if_neg hlt, hg _ (by omega), if_neg (fun h => by omega)]
    congr 1
    omega
set_option maxRecDepth 100000 in
set_option maxHeartbeats 4000000 in
theorem back_any (tos id : Int) (df : Bool) (ttl proto : Int) (s d : Nat → Int) (O : Option Addr) (on co : Nat) (fo : Nat → Int) (A : Option Addr) (n c : Nat) (f : Nat → Int) (A' : Option Addr) (n' c' : Nat) (f' : Nat → Int)
    (h1 : 0 ≤ tos ∧ tos ≤ 255) (h2 : 0 ≤ id ∧ id ≤ 65535) (h3 : 0 ≤ ttl ∧ ttl ≤ 255) (h4 : 0 ≤ proto ∧ proto ≤ 255) (hs : Byt s) (hd : Byt d) (hfo : Byt fo) (hf : Byt f) (hf' : Byt f') (hon : on ≤ 2000) (hoc : on ≤ co) (hco : co ≤ 9223372036854775807) (hn : n ≤ 2000) (hcap : n ≤ c) (hc9 : c ≤ 9223372036854775807) (hn' : n' ≤ 2000)
    (w : World) (hro : Rd w w.heap.size O on fo) (hr : Rd w w.heap.size A n f) (hr' : Rd w w.heap.size A' n' f') :
    Calls Try.prog 4 #[.agg (ip4c tos id df ttl proto s d (.slice O on co)), .slice A n c, .slice A' n' c'] w fun e w' => e = .returned (.bool true) ∧ Below w.heap.size w w' := by
  obtain ⟨i0, hi0, hz0, hz1, hz2⟩ := info_parts Try.info5
  have HI0 := Lib.hid hi0
  have HZ0 := Lib.hid hz0
  have HZ1 := Lib.hid hz1
  have HZ2 := Lib.hid hz2
  clear hi0 hz0 hz1 hz2
  have HE1 : Hid ((w.alloc (.cells (ip4c tos id df ttl proto s d (.slice O on co)) 26)).heap[w.heap.size]? = some (.cells (ip4c tos id df ttl proto s d (.slice O on co)) 26 (0, 0))) := heap_alloc_new w _
  have HB1 : Hid (Below w.heap.size w (w.alloc (.cells (ip4c tos id df ttl proto s d (.slice O on co)) 26))) := below_alloc w _
  have ho37 : (w.alloc (.cells (ip4c tos id df ttl proto s d (.slice O on co)) 26)).cell? ⟨w.heap.size, 37, none⟩ = some (.slice O on co) := blk_cell HE1.out 37
  have KN := Lib.hid known_any
  have HW := Lib.hid (write4_any tos id df ttl proto s d O on co fo A n c f h1 h2 h3 h4 hs hd hfo hf (by omega) hoc hco (by omega) (w.alloc (.cells (ip4c tos id df ttl proto s d (.slice O on co)) 26)) ((hro.keep HB1.out).more HB1.out.size) ((hr.keep HB1.out).more HB1.out.size))
  have HBK : Hid (∀ (g : Nat → Int) (N : Nat), optE fo on = 0 → 20 + on + n ≤ 1660 → (fourB s && fourB d) = true → Byt g → 20 + on + n ≤ N → (∀ k, k < 20 + on → g k = hdr4 tos id df ttl proto s d on fo (20 + on + n) k) → (∀ k, k < n → g (20 + on + k) = f k) →
      rd4E g N = 0 ∧ hl4 g = 20 + on ∧ tl4 g = 20 + on + n ∧ (∀ o, ip4c (g 1) (g 4 * 256 + g 5) (decide (16384 ≤ g 6 * 256 + g 7)) (g 8) (g 9) (adr fun k => g (12 + k)) (adr fun k => g (16 + k)) o = ip4c tos id df ttl proto s d o) ∧ (∀ k, k < on → g (20 + k) = fo k)) := fun g N hE hl hab hg hN hh hp =>
    back_read h1 h2 h3 h4 hs hd hfo hE hl (by revert hab; cases fourB s <;> simp) (by revert hab; cases fourB s <;> simp) hg hN hh hp
  have HBY : Hid (optE fo on = 0 → 20 + on + n ≤ 1660 → Byt (cat (20 + on) (hdr4 tos id df ttl proto s d on fo (20 + on + n)) f) ∧ ofv (cat (20 + on) (hdr4 tos id df ttl proto s d on fo (20 + on + n)) f) (20 + on) = 0) := fun hE ht => by
    obtain ⟨ho, _⟩ := optE_ok hE
    have hb := hdr0_byt (df := df) h1 h2 h3 h4 hs hd hfo ho (show 20 + on + n ≤ 65535 by omega)
    have q := ofv_bd hb (20 + on)
    have hb4 := upd_byt (upd_byt hb 10 (v := ofv (hdr0 tos id df ttl proto s d on fo (20 + on + n)) (20 + on) / 256) (by omega)) 11 (v := ofv (hdr0 tos id df ttl proto s d on fo (20 + on + n)) (20 + on) % 256) (by omega)
    refine ⟨cat_byt _ hb4 hf, ?_⟩
    rw [ofv_same (f := hdr4 tos id df ttl proto s d on fo (20 + on + n)) (20 + on) (fun k hk => by unfold cat; rw [if_pos hk])]
    exact hdr4_ofv hb
  have HRO := Lib.hid hro
  have HR := Lib.hid hr
  have HR' := Lib.hid hr'
  have HF := Lib.hid hf
  have HF' := Lib.hid hf'
  clear hs hd hfo hf hf' hro hr hr' h1 h2 h3 h4
  have g1 : ¬ (2000 : Int) < (n : Int) := by omega
  have g2 : ¬ (2000 : Int) < (n' : Int) := by omega
  have g3 : ¬ (2000 : Int) < (on : Int) := by omega
  go_enter Try.func4, Try.ntmps4
  go_upto_if 31 with fail
  go_wp2_with (first
    | (refine wpList_load_roww rfl 26 (.tmp 3) rfl w.heap.size rfl 26 (ip4c tos id df ttl proto s d (.slice O on co)) (0, 0) _ HE1.out Try.underlying26 rfl (by kernel_rfl) ?_))
  go_at_call 10
  refine HW.out.mono ?_
  rintro e w2 hq
  obtain ⟨U, mu, cu, X, gu, rfl, hu, hb2, hX⟩ := wr4_both hq
  have HU2 : Hid (Own w2 w.heap.size 5 U mu cu gu) := hu.le (by simp)
  have HB2 : Hid (Below w.heap.size w w2) := HB1.out.trans (hb2.mono HB1.out.size)
  have HE2 := Lib.hid ((hb2.block _ (lt_heap HE1.out)).trans HE1.out)
  have HX := Lib.hid hX
  clear hq hu hb2 hX HW HE1 HB1 ho37
  go_upto_if 40 with fail
  go_cut [] from 7 to 83 (fun wx => Below w.heap.size w wx)
  case first =>
    rcases HX.out with ⟨rfl, hE, hab, hl, rfl, rfl⟩ | ⟨hX0, _⟩
    · obtain ⟨hby, hofv⟩ := HBY.out hE hl
      have HFh : Hid (∀ k, k < 20 + on → cat (20 + on) (hdr4 tos id df ttl proto s d on fo (20 + on + n)) f k = hdr4 tos id df ttl proto s d on fo (20 + on + n) k) := fun k hk => by unfold cat; rw [if_pos hk]
      have HFp : Hid (∀ k, k < n → cat (20 + on) (hdr4 tos id df ttl proto s d on fo (20 + on + n)) f (20 + on + k) = f k) := fun k hk => by
        unfold cat
        rw [if_neg (by omega)]
        congr 1
        omega
      obtain ⟨F, hF⟩ : ∃ F, F = cat (20 + on) (hdr4 tos id df ttl proto s d on fo (20 + on + n)) f := ⟨_, rfl⟩
      rw [← hF] at HU2 hby hofv HFh HFp
      have hBK := HBK.out (cat (20 + on + n) F f') (20 + on + n + n') hE hl hab (cat_byt _ hby HF'.out) (by omega) (fun k hk => by unfold cat; rw [if_pos (by omega)]; exact HFh.out k hk) (fun k hk => by unfold cat; rw [if_pos (by omega)]; exact HFp.out k hk)
      have HGY : Hid (Byt (cat (20 + on + n) F f')) := cat_byt _ hby HF'.out
      have HGP : Hid (∀ k, k < n → cat (20 + on + n) F f' (20 + on + k) = f k) := fun k hk => by unfold cat; rw [if_pos (by omega)]; exact HFp.out k hk
      have HGC : Hid (∀ k, cat (20 + on + n) (cat 0 (fun _ => 0) F) f' k = cat (20 + on + n) F f' k) := fun k => by
        unfold cat
        split
        · rw [if_neg (by omega)]; rfl
        · rfl
      obtain ⟨G, hG⟩ : ∃ G, G = cat (20 + on + n) F f' := ⟨_, rfl⟩
      rw [← hG] at hBK HGY HGP HGC
      obtain ⟨r0, r1, r2, r3, r4⟩ := hBK
      have HR0 := Lib.hid r0
      have HR1 := Lib.hid r1
      have HR2 := Lib.hid r2
      have HR3 := Lib.hid r3
      have HR4 := Lib.hid r4
      have HFY := Lib.hid hby
      have HOFV := Lib.hid hofv
      have hmu : 20 + on + n ≤ 1660 := hl
      clear hE hab hl hF hG r0 r1 r2 r3 r4 hby hofv HX HBY HBK HFh HFp
      obtain ⟨g, hgU, _, hgl, _, _⟩ := HU2.out.lies (by omega)
      subst hgU
      have e1 : ¬ (20 + (on : Int) + (n : Int)) < (n : Int) + 20 := by omega
      have e2 : (20 + (on : Int) + (n : Int)) - (n : Int) = 20 + (on : Int) := by omega
      have hcu := HU2.out.cap
      have hcu9 := HU2.out.cap_le
      have HO0 : Hid (Own (w2.alloc (.cells #[] 5)) w2.heap.size 5 (some ⟨w2.heap.size, 0, none⟩) 0 0 (fun _ => 0)) := Own.fresh w2 _ _ rfl (Nat.le_refl _) _ _
      have B20 : Hid (Below w2.heap.size w2 (w2.alloc (.cells #[] 5))) := below_alloc w2 _
      go_wp2_with (first
        | (at_builtin
           refine wpList_append_rd rfl (.tmp 48) (.tmp 49) _ rfl w2.heap.size 5 i0 Try.underlying24 HI0.out HZ0.out HZ1.out HZ2.out rfl HO0.out rfl (HU2.out.rd.keep B20.out) (by omega) (alloc_le w2 _) ?_
           intro A3 c3 w3 hown3 hg3 _
           rw [Nat.zero_add] at hown3
           have HO3 := Lib.hid hown3
           have B23 : Hid (Below w2.heap.size w2 w3) := B20.out.grown hg3 B20.out.size (fun k hk => HO0.out.at_ k hk)
           clear hown3 hg3)
        | (at_builtin
           refine wpList_append_rd rfl (.tmp 50) (.tmp 51) _ rfl w2.heap.size 5 i0 Try.underlying24 HI0.out HZ0.out HZ1.out HZ2.out rfl HO3.out rfl (HR'.out.keep (HB2.out.trans (B23.out.mono HB2.out.size))) (by omega) B23.out.size ?_
           intro A4 c4 w4 hown4 hg4 _
           have HO4 : Hid (Own w4 w2.heap.size 5 A4 (20 + on + n + n') c4 G) := by
             have q : Own w4 w2.heap.size 5 A4 (20 + on + n + n') c4 (cat (20 + on + n) (cat 0 (fun _ => 0) F) f') := hown4
             exact q.same fun k _ => (HGC.out k).symm
           have B24 : Hid (Below w2.heap.size w2 w4) := B23.out.grown hg4 B23.out.size (fun k hk => HO3.out.at_ k hk)
           clear hown4 hg4))
      have HRD := Lib.hid (read4_any A4 (20 + on + n + n') c4 G HGY.out (by omega) HO4.out.cap HO4.out.cap_le w4 HO4.out.rd)
      rw [HR0.out] at HRD
      go_at_call 7
      refine HRD.out.mono ?_
      rintro e w5 hq
      rcases hq with ⟨h, _⟩ | ⟨_, O2, co2, P, cp, rfl, ho2, hp, _, hb5⟩
      · exact absurd rfl h
      rw [HR1.out] at ho2
      rw [HR1.out, HR2.out] at hp ⊢
      rw [HR3.out]
      have z1 : 20 + on - 20 = on := by omega
      have z2 : 20 + on + n - (20 + on) = n := by omega
      rw [z1] at ho2 ⊢
      rw [z2] at hp ⊢
      have B25 : Hid (Below w2.heap.size w2 w5) := B24.out.trans (hb5.mono B24.out.size)
      obtain ⟨CS, hCS⟩ : ∃ CS, CS = ip4c tos id df ttl proto s d (.slice O2 on co2) := ⟨_, rfl⟩
      have HCS := Lib.hid hCS
      have H1 : Hid (CS.all (·.oneCell') = true) := by rw [hCS]; exact ip4_one ..
      have HSZ : Hid (CS.size = 38) := by rw [hCS]; rfl
      rw [← hCS]
      have HN : Hid ((w5.alloc (.cells ip4z 26)).heap[w5.heap.size]? = some (.cells ip4z 26 (0, 0))) := heap_alloc_new w5 _
      have HT6 : Hid (((w5.alloc (.cells ip4z 26)).setRow w5.heap.size CS).heap[w5.heap.size]? = some (.cells CS 26 (0, 0))) := setRow_heap _ _ _ CS _ _ HN.out
      have B56 : Hid (Below w5.heap.size w5 ((w5.alloc (.cells ip4z 26)).setRow w5.heap.size CS)) := below_setRow (below_alloc w5 _) (Nat.le_refl _) CS
      have HO2 := Lib.hid ho2
      have HP := Lib.hid hp
      have hi38 := Lib.hid (show (Try.prog.info? 26).map (·.size) = some 38 by kernel_rfl)
      clear hCS ho2 hp hb5 HRD HO4 HO3 HO0 B20 B23 z1 z2
      go_upto_region 8 with (first
        | (refine wpList_store_row rfl 26 (.tmp 9) (.tmp 54) rfl w5.heap.size CS rfl rfl 26 ip4z HN.out (hi38.out.trans (by rw [HSZ.out])) (by rw [HSZ.out]; rfl) H1.out ?_))
      change Code.wp _ _ _ _ ((w5.alloc (.cells ip4z 26)).setRow w5.heap.size CS)
      generalize (w5.alloc (.cells ip4z 26)).setRow w5.heap.size CS = w6 at *
      have B26 : Hid (Below w2.heap.size w2 w6) := B25.out.trans (B56.out.mono B25.out.size)
      have HE6 := Lib.hid ((B26.out.block _ (lt_heap HE2.out)).trans HE2.out)
      have HSM : Hid (Calls Try.prog 9 #[.agg CS, .agg (ip4c tos id df ttl proto s d (.slice O on co))] w6 fun e w' => e = .returned (.bool true) ∧ Below w6.heap.size w6 w') := by
        rw [HCS.out]
        exact rsame_any tos id df ttl proto s d O2 O on co2 co fo w6 (((HO2.out.below B56.out).rd).same fun k hk => (HR4.out k hk).symm) ((HRO.out.keep (HB2.out.trans (B26.out.mono HB2.out.size))).more (Nat.le_trans HB2.out.size B26.out.size))
      have HB6 : Hid (Below w.heap.size w w6) := HB2.out.trans (B26.out.mono HB2.out.size)
      obtain ⟨S, hS⟩ : ∃ S, S = strOfNums (nums n f) := ⟨_, rfl⟩
      have HS := Lib.hid hS
      clear hS
      have HCV : Hid (∀ w7, Below w6.heap.size w6 w7 → (convert 24 9 (.slice P n cp)).run Try.prog w7 = .ok (.string S) w7 ∧ (convert 24 9 (.slice A n c)).run Try.prog w7 = .ok (.string S) w7) := fun w7 hb7 => by
        have q1 := run_convert_rd (P := Try.prog) (((HP.out.below B56.out).below hb7).rd) 24 5 9 cp Try.underlying24 Try.underlying5 Try.underlying9
        have q2 := run_convert_rd (P := Try.prog) (HR.out.keep (HB6.out.trans (hb7.mono HB6.out.size))) 24 5 9 c Try.underlying24 Try.underlying5 Try.underlying9
        rw [nums_congr (f := f) (fun k hk => HGP.out k hk), ← HS.out] at q1
        rw [← HS.out] at q2
        exact ⟨q1, q2⟩
      have HOF : Hid (∀ w7, Below w6.heap.size w6 w7 → Calls Try.prog 14 #[.slice (some ⟨g, 0, none⟩) (20 + on) cu] w7 fun e w' => e = .returned (.int .u16 0) ∧ Below w7.heap.size w7 w') := fun w7 hb7 => by
        have q := of_any (some ⟨g, 0, none⟩) (20 + on) cu F HFY.out (by omega) (by omega) w7 ((((HU2.out.below B26.out).below hb7).rd).less (by omega))
        rw [HOFV.out] at q
        exact q
      clear HE2 B24 B25 B56 HN H1 HO2 HP HR0 HR1 HR2 HR3 HR4 HGY HGP HGC HFY HOFV HU2
      go_wp2_with (first
        | (refine wpList_load_roww rfl 26 (.tmp 9) rfl w5.heap.size rfl 26 CS (0, 0) _ HT6.out Try.underlying26 rfl (hi38.out.trans (by rw [HSZ.out])) ?_)
        | (refine wpList_load_roww rfl 26 (.tmp 3) rfl w.heap.size rfl 26 (ip4c tos id df ttl proto s d (.slice O on co)) (0, 0) _ HE6.out Try.underlying26 rfl (by kernel_rfl) ?_)
        | (go_at_call 9
           refine HSM.out.mono ?_
           rintro e w7 ⟨rfl, hb7⟩
           obtain ⟨hv1, hv2⟩ := HCV.out w7 hb7
           have HOF7 := Lib.hid (HOF.out w7 hb7)
           have HB7 : Hid (Below w.heap.size w w7) := HB6.out.trans (hb7.mono HB6.out.size)
           clear hb7)
        | (go_at_call 14
           refine HOF7.out.mono ?_
           rintro e w8 ⟨rfl, hb8⟩
           have HB8 : Hid (Below w.heap.size w w8) := HB7.out.trans (hb8.mono HB7.out.size)
           clear hb8))
      go_meet
      exact HB8.out
    · have hX0' : (X == 0) = false := by simpa using hX0
      clear HX
      go_wp2_with fail
      go_meet
      exact HB2.out
  case rest =>
  have HBc := Lib.hid hcut
  clear hcut HX HU2 HB2 HE2 HBK HBY
  have HRD := Lib.hid (read4_any A n c f HF.out (by omega) hcap hc9 wc (HR.out.keep HBc.out |>.more HBc.out.size))
  have HOK : Hid (rd4E f n = 0 → _) := Lib.hid (rd4_ok (n := n) HF.out)
  obtain ⟨E, hE⟩ : ∃ E, E = rd4E f n := ⟨_, rfl⟩
  rw [← hE] at HRD HOK
  have HEE := Lib.hid hE
  clear hE
  go_wp2_with fail
  go_at_call 7
  refine HRD.out.mono ?_
  rintro e w2 hq
  rcases hq with ⟨hE0, rfl, hb2⟩ | ⟨hE0, O2, co2, P, cp, rfl, ho2, hp, _, hb2⟩
  · have HB2 : Hid (Below w.heap.size w w2) := HBc.out.trans (hb2.mono HBc.out.size)
    have HN : Hid ((w2.alloc (.cells ip4z 26)).heap[w2.heap.size]? = some (.cells ip4z 26 (0, 0))) := heap_alloc_new w2 _
    have HB3 : Hid (Below w.heap.size w ((w2.alloc (.cells ip4z 26)).setRow w2.heap.size ip4z)) := below_setRow (HB2.out.alloc HB2.out.size _) HB2.out.size ip4z
    have hE1 : (E != 0) = true := by simpa using hE0
    clear hb2 HRD HOK HEE hE0
    go_upto_region 11 with (first
      | (refine wpList_store_row rfl 26 (.tmp 12) (.tmp 86) rfl w2.heap.size ip4z rfl rfl 26 ip4z HN.out (by kernel_rfl) rfl ip4z_one ?_))
    change Code.wp _ _ _ _ ((w2.alloc (.cells ip4z 26)).setRow w2.heap.size ip4z)
    generalize (w2.alloc (.cells ip4z 26)).setRow w2.heap.size ip4z = w3 at *
    go_wp2_with (first
      | (go_at_call 6; refine (KN.out _).mono ?_; rintro e w4 ⟨rfl, hb4⟩))
    go_ret
    exact ⟨rfl, HB3.out.trans (hb4.mono HB3.out.size)⟩
  · have hok := HOK.out hE0
    obtain ⟨k1, k2, k3, k4, k5, k6, k7, k8, k9, _⟩ := hok
    obtain ⟨H, hH⟩ : ∃ H, H = hl4 f := ⟨_, rfl⟩
    obtain ⟨T, hT⟩ : ∃ T, T = tl4 f := ⟨_, rfl⟩
    obtain ⟨OP, hOP⟩ : ∃ OP : Nat → Int, OP = fun k => f (20 + k) := ⟨_, rfl⟩
    obtain ⟨PP, hPP⟩ : ∃ PP : Nat → Int, PP = fun k => f (hl4 f + k) := ⟨_, rfl⟩
    have HBW : Hid (∀ k, k < T → cat (20 + (H - 20)) (hdr4 (f 1) (f 4 * 256 + f 5) (decide (16384 ≤ f 6 * 256 + f 7)) (f 8) (f 9) (adr fun k => f (12 + k)) (adr fun k => f (16 + k)) (H - 20) OP (20 + (H - 20) + (T - H))) PP k = zap f k) := by
      intro k hk
      rw [hH, hT, hOP, hPP]
      exact back_write HF.out (by rw [← HEE.out]; exact hE0) _ (fun k _ => rfl) _ (fun k _ => rfl) k (by rw [← hT]; exact hk)
    rw [← hOP] at ho2 k9
    rw [← hPP] at hp
    rw [← hH] at ho2 hp k1 k2 k3 k6 k7 k8 k9 ⊢
    rw [← hT] at hp k3 k4 k5 ⊢
    have HOPY : Hid (Byt OP) := by rw [hOP]; exact fun k => HF.out _
    have HPPY : Hid (Byt PP) := by rw [hPP]; exact fun k => HF.out _
    have HB2 : Hid (Below w.heap.size w w2) := HBc.out.trans (hb2.mono HBc.out.size)
    obtain ⟨CS, hCS⟩ : ∃ CS, CS = ip4c (f 1) (f 4 * 256 + f 5) (decide (16384 ≤ f 6 * 256 + f 7)) (f 8) (f 9) (adr fun k => f (12 + k)) (adr fun k => f (16 + k)) (.slice O2 (H - 20) co2) := ⟨_, rfl⟩
    have H1 : Hid (CS.all (·.oneCell') = true) := by rw [hCS]; exact ip4_one ..
    have HSZ : Hid (CS.size = 38) := by rw [hCS]; rfl
    have H37 : Hid (CS[37]? = some (.slice O2 (H - 20) co2)) := by rw [hCS]; rfl
    have hi38 := Lib.hid (show (Try.prog.info? 26).map (·.size) = some 38 by kernel_rfl)
    have HN : Hid ((w2.alloc (.cells ip4z 26)).heap[w2.heap.size]? = some (.cells ip4z 26 (0, 0))) := heap_alloc_new w2 _
    have HT3 : Hid (((w2.alloc (.cells ip4z 26)).setRow w2.heap.size CS).heap[w2.heap.size]? = some (.cells CS 26 (0, 0))) := setRow_heap _ _ _ CS _ _ HN.out
    have B23 : Hid (Below w2.heap.size w2 ((w2.alloc (.cells ip4z 26)).setRow w2.heap.size CS)) := below_setRow (below_alloc w2 _) (Nat.le_refl _) CS
    have HCS := Lib.hid hCS
    rw [← hCS]
    have hoc2 := ho2.cap
    have hoc29 := ho2.cap_le
    have HO2 := Lib.hid ho2
    have HP := Lib.hid hp
    have b4 := HF.out 4
    have b5 := HF.out 5
    have hidb : 0 ≤ f 4 * 256 + f 5 ∧ f 4 * 256 + f 5 ≤ 65535 := by omega
    clear hCS ho2 hp hb2 HRD HOK hH hT hOP hPP HBc b4 b5
    go_upto_region 11 with (first
      | (refine wpList_store_row rfl 26 (.tmp 12) (.tmp 86) rfl w2.heap.size CS rfl rfl 26 ip4z HN.out (hi38.out.trans (by rw [HSZ.out])) (by rw [HSZ.out]; rfl) H1.out ?_))
    change Code.wp _ _ _ _ ((w2.alloc (.cells ip4z 26)).setRow w2.heap.size CS)
    generalize (w2.alloc (.cells ip4z 26)).setRow w2.heap.size CS = w3 at *
    have HB3 : Hid (Below w.heap.size w w3) := HB2.out.trans (B23.out.mono HB2.out.size)
    have HW : Hid (Calls Try.prog 10 #[.agg CS, .slice P (T - H) cp] w3 (Wr4 w3.heap.size 5 (optE OP (H - 20)) (fourB (adr fun k => f (12 + k)) && fourB (adr fun k => f (16 + k))) (20 + (H - 20) + (T - H)) (cat (20 + (H - 20)) (hdr4 (f 1) (f 4 * 256 + f 5) (decide (16384 ≤ f 6 * 256 + f 7)) (f 8) (f 9) (adr fun k => f (12 + k)) (adr fun k => f (16 + k)) (H - 20) OP (20 + (H - 20) + (T - H))) PP) w3)) := by
      rw [HCS.out]
      exact write4_any _ _ _ _ _ _ _ O2 (H - 20) co2 OP P (T - H) cp PP (HF.out 1) hidb (HF.out 8) (HF.out 9) (adr_byt fun k => HF.out _) (adr_byt fun k => HF.out _) HOPY.out HPPY.out (by omega) hoc2 hoc29 (by omega) w3 (HO2.out.below B23.out).rd (HP.out.below B23.out).rd
    rw [fourB_adr, fourB_adr, k9] at HW
    obtain ⟨ZF, hZF⟩ : ∃ ZF, ZF = zap f := ⟨_, rfl⟩
    have HZF := Lib.hid hZF
    rw [← hZF] at HBW
    clear hZF HCS hidb HO2 HP
    go_wp2_with (first
      | (refine wpList_load_roww rfl 26 (.tmp 12) rfl w2.heap.size rfl 26 CS (0, 0) _ HT3.out Try.underlying26 rfl (hi38.out.trans (by rw [HSZ.out])) ?_))
    go_at_call 10
    refine HW.out.mono ?_
    rintro e w4 hq
    obtain ⟨U, mu, cu, X, gu, rfl, hu, hb4, hX⟩ := wr4_both hq
    have HB4 : Hid (Below w.heap.size w w4) := HB3.out.trans (hb4.mono HB3.out.size)
    have HT4 := Lib.hid ((hb4.block _ (lt_heap HT3.out)).trans HT3.out)
    rcases hX with ⟨rfl, _, _, hml, rfl, rfl⟩ | ⟨hX0, _, hX3⟩
    · have hTm : 20 + (H - 20) + (T - H) = T := by omega
      rw [hTm] at hu HBW ⊢
      have HU : Hid (Own w4 w3.heap.size 5 U T cu ZF) := hu.same fun k hk => (HBW.out k hk).symm
      clear hu hb4 hq HW HBW hTm HT3 B23 HB2 HN
      rcases HR.out with h0 | ⟨b, off, rfl, hbb, hcell⟩
      · omega
      clear hcell
      have i1 : ¬ (T : Int) < 20 := by omega
      have i2 : ¬ (n : Int) < (T : Int) := by omega
      have i3 : (T : Int) ≤ (c : Int) := by omega
      have i10 : (10 : Int) < (T : Int) := by omega
      have i11 : (11 : Int) < (T : Int) := by omega
      have HO0 : Hid (Own (w4.alloc (.cells #[] 5)) w4.heap.size 5 (some ⟨w4.heap.size, 0, none⟩) 0 0 (fun _ => 0)) := Own.fresh w4 _ _ rfl (Nat.le_refl _) _ _
      have B40 : Hid (Below w4.heap.size w4 (w4.alloc (.cells #[] 5))) := below_alloc w4 _
      have HB40 : Hid (Below w.heap.size w (w4.alloc (.cells #[] 5))) := HB4.out.trans (B40.out.mono HB4.out.size)
      by_cases q10 : f 10 = 255
      · by_cases q11 : f 11 = 255
        · have HZE := Lib.hid (show ZF = upd (upd f 10 0) 11 0 by rw [HZF.out]; unfold zap; rw [if_pos ⟨q10, q11⟩])
          go_upto_if 145 with (first
          | (at_builtin
             refine wpList_append_rd rfl (.tmp 130) (.tmp 134) _ rfl w4.heap.size 5 i0 Try.underlying24 HI0.out HZ0.out HZ1.out HZ2.out rfl HO0.out rfl ((HR.out.keep HB40.out).less (by omega)) (by omega) (alloc_le w4 _) ?_
             intro A5 c5 w5 hown5 hg5 _
             have HO5 : Hid (Own w5 w4.heap.size 5 A5 T c5 f) := by
               rw [Nat.zero_add] at hown5
               exact hown5.same fun k _ => by simp [cat]
             have B45 : Hid (Below w4.heap.size w4 w5) := B40.out.grown hg5 B40.out.size (fun k hk => HO0.out.at_ k hk)
             have HB5 : Hid (Below w.heap.size w w5) := HB4.out.trans (B45.out.mono HB4.out.size)
             clear hown5 hg5
             obtain ⟨g5, hg5, hgb5, _, hcell5, hfree5⟩ := HO5.out.lies (by omega)
             subst hg5
             have c10 := hcell5 10 (by omega)
             have c11 := hcell5 11 (by omega)
             have f10 := hfree5 10
             have f11 := hfree5 11
             clear hcell5 hfree5
             rw [q10] at c10
             rw [q11] at c11))
          have HO6 : Hid (Own ((w5.setCell ⟨g5, 10, none⟩ (.int .u8 0)).setCell ⟨g5, 11, none⟩ (.int .u8 0)) w4.heap.size 5 (some ⟨g5, 0, none⟩) T c5 ZF) := by
            rw [HZE.out]
            exact (HO5.out.set_ 10 0).set_ 11 0
          have B46 : Hid (Below w4.heap.size w4 ((w5.setCell ⟨g5, 10, none⟩ (.int .u8 0)).setCell ⟨g5, 11, none⟩ (.int .u8 0))) := (B45.out.setCell hgb5 _).setCell hgb5 _
          have HB6 : Hid (Below w.heap.size w ((w5.setCell ⟨g5, 10, none⟩ (.int .u8 0)).setCell ⟨g5, 11, none⟩ (.int .u8 0))) := HB4.out.trans (B46.out.mono HB4.out.size)
          have hv1 := run_convert_rd (P := Try.prog) (HU.out.rd.keep B46.out) 24 5 9 cu Try.underlying24 Try.underlying5 Try.underlying9
          have hv2 := run_convert_rd (P := Try.prog) HO6.out.rd 24 5 9 c5 Try.underlying24 Try.underlying5 Try.underlying9
          generalize strOfNums (nums T ZF) = S at hv1 hv2
          go_wp2_with (first
          | (go_at_call 6; refine (KN.out _).mono ?_; rintro e w7 ⟨rfl, hb7⟩))
          go_ret
          exact ⟨rfl, HB6.out.trans (hb7.mono HB6.out.size)⟩
        · have HZE := Lib.hid (show ZF = f by rw [HZF.out]; unfold zap; rw [if_neg (fun h => q11 h.2)])
          have q11' : (f 11 == 255) = false := by simpa using q11
          go_wp2_with (first
          | (at_builtin
             refine wpList_append_rd rfl (.tmp 130) (.tmp 134) _ rfl w4.heap.size 5 i0 Try.underlying24 HI0.out HZ0.out HZ1.out HZ2.out rfl HO0.out rfl ((HR.out.keep HB40.out).less (by omega)) (by omega) (alloc_le w4 _) ?_
             intro A5 c5 w5 hown5 hg5 _
             have HO5 : Hid (Own w5 w4.heap.size 5 A5 T c5 f) := by
               rw [Nat.zero_add] at hown5
               exact hown5.same fun k _ => by simp [cat]
             have B45 : Hid (Below w4.heap.size w4 w5) := B40.out.grown hg5 B40.out.size (fun k hk => HO0.out.at_ k hk)
             have HB5 : Hid (Below w.heap.size w w5) := HB4.out.trans (B45.out.mono HB4.out.size)
             clear hown5 hg5
             obtain ⟨g5, hg5, hgb5, _, hcell5, hfree5⟩ := HO5.out.lies (by omega)
             subst hg5
             have c10 := hcell5 10 (by omega)
             have c11 := hcell5 11 (by omega)
             have f10 := hfree5 10
             have f11 := hfree5 11
             clear hcell5 hfree5
             have hv1 := run_convert_rd (P := Try.prog) (HU.out.rd.keep B45.out) 24 5 9 cu Try.underlying24 Try.underlying5 Try.underlying9
             have hv2 := run_convert_rd (P := Try.prog) HO5.out.rd 24 5 9 c5 Try.underlying24 Try.underlying5 Try.underlying9
             rw [HZE.out] at hv1
             generalize strOfNums (nums T f) = S at hv1 hv2
             rw [q10] at c10)
          | (go_at_call 6; refine (KN.out _).mono ?_; rintro e w6 ⟨rfl, hb6⟩))
          go_ret
          exact ⟨rfl, HB5.out.trans (hb6.mono HB5.out.size)⟩
      · have HZE := Lib.hid (show ZF = f by rw [HZF.out]; unfold zap; rw [if_neg (fun h => q10 h.1)])
        have q10' : (f 10 == 255) = false := by simpa using q10
        go_wp2_with (first
          | (at_builtin
             refine wpList_append_rd rfl (.tmp 130) (.tmp 134) _ rfl w4.heap.size 5 i0 Try.underlying24 HI0.out HZ0.out HZ1.out HZ2.out rfl HO0.out rfl ((HR.out.keep HB40.out).less (by omega)) (by omega) (alloc_le w4 _) ?_
             intro A5 c5 w5 hown5 hg5 _
             have HO5 : Hid (Own w5 w4.heap.size 5 A5 T c5 f) := by
               rw [Nat.zero_add] at hown5
               exact hown5.same fun k _ => by simp [cat]
             have B45 : Hid (Below w4.heap.size w4 w5) := B40.out.grown hg5 B40.out.size (fun k hk => HO0.out.at_ k hk)
             have HB5 : Hid (Below w.heap.size w w5) := HB4.out.trans (B45.out.mono HB4.out.size)
             clear hown5 hg5
             obtain ⟨g5, hg5, hgb5, _, hcell5, hfree5⟩ := HO5.out.lies (by omega)
             subst hg5
             have c10 := hcell5 10 (by omega)
             have c11 := hcell5 11 (by omega)
             have f10 := hfree5 10
             have f11 := hfree5 11
             clear hcell5 hfree5
             have hv1 := run_convert_rd (P := Try.prog) (HU.out.rd.keep B45.out) 24 5 9 cu Try.underlying24 Try.underlying5 Try.underlying9
             have hv2 := run_convert_rd (P := Try.prog) HO5.out.rd 24 5 9 c5 Try.underlying24 Try.underlying5 Try.underlying9
             rw [HZE.out] at hv1
             generalize strOfNums (nums T f) = S at hv1 hv2
             skip)
          | (go_at_call 6; refine (KN.out _).mono ?_; rintro e w6 ⟨rfl, hb6⟩))
        go_ret
        exact ⟨rfl, HB5.out.trans (hb6.mono HB5.out.size)⟩
    · obtain ⟨rfl, hbig⟩ := hX3 rfl rfl
      have c37 : w4.cell? ⟨w2.heap.size, 37, none⟩ = some (.slice O2 (H - 20) co2) := (blk_cell HT4.out 37).trans H37.out
      have e1 : (1660 : Int) < ((H - 20 : Nat) : Int) + ((T - H : Nat) : Int) + 20 := by omega
      clear hu hb4 hq HW HBW HT3 B23 HB2 HN hX0 hX3
      go_wp2_with (first
        | (go_at_call 6; refine (KN.out _).mono ?_; rintro e w5 ⟨rfl, hb5⟩))
      go_ret
      exact ⟨rfl, HB4.out.trans (hb5.mono HB4.out.size)⟩
set_option maxRecDepth 100000 in
set_option maxHeartbeats 1000000 in
theorem back_long (tos id : Int) (df : Bool) (ttl proto : Int) (s d : Nat → Int) (O : Option Addr) (on co : Nat) (A : Option Addr) (n c : Nat) (A' : Option Addr) (n' c' : Nat) (hon : on ≤ 9223372036854775807) (hn : n ≤ 9223372036854775807) (hn' : n' ≤ 9223372036854775807) (h : 2000 < n ∨ 2000 < n' ∨ 2000 < on) (w : World) :
    Calls Try.prog 4 #[.agg (ip4c tos id df ttl proto s d (.slice O on co)), .slice A n c, .slice A' n' c'] w fun e w' => e = .returned (.bool true) ∧ Below w.heap.size w w' := by
  have HE1 : Hid ((w.alloc (.cells (ip4c tos id df ttl proto s d (.slice O on co)) 26)).heap[w.heap.size]? = some (.cells (ip4c tos id df ttl proto s d (.slice O on co)) 26 (0, 0))) := heap_alloc_new w _
  have HB1 : Hid (Below w.heap.size w (w.alloc (.cells (ip4c tos id df ttl proto s d (.slice O on co)) 26))) := below_alloc w _
  have ho37 : (w.alloc (.cells (ip4c tos id df ttl proto s d (.slice O on co)) 26)).cell? ⟨w.heap.size, 37, none⟩ = some (.slice O on co) := blk_cell HE1.out 37
  have KN := Lib.hid known_any
  by_cases a : 2000 < n
  · have a' : (2000 : Int) < (n : Int) := by omega
    clear h
    go_enter Try.func4, Try.ntmps4
    go_wp2_with (first
      | (go_at_call 6; refine (KN.out _).mono ?_; rintro e w3 ⟨rfl, hb3⟩))
    go_ret
    exact ⟨rfl, HB1.out.trans (hb3.mono HB1.out.size)⟩
  · have a' : ¬ (2000 : Int) < (n : Int) := by omega
    by_cases b : 2000 < n'
    · have b' : (2000 : Int) < (n' : Int) := by omega
      clear h
      go_enter Try.func4, Try.ntmps4
      go_wp2_with (first
        | (go_at_call 6; refine (KN.out _).mono ?_; rintro e w3 ⟨rfl, hb3⟩))
      go_ret
      exact ⟨rfl, HB1.out.trans (hb3.mono HB1.out.size)⟩
    · have b' : ¬ (2000 : Int) < (n' : Int) := by omega
      have c' : (2000 : Int) < (on : Int) := by omega
      clear h
      go_enter Try.func4, Try.ntmps4
      go_wp2_with (first
        | (go_at_call 6; refine (KN.out _).mono ?_; rintro e w3 ⟨rfl, hb3⟩))
      go_ret
      exact ⟨rfl, HB1.out.trans (hb3.mono HB1.out.size)⟩
end Go.Proofs.Ytmmmednghdnhnaa
