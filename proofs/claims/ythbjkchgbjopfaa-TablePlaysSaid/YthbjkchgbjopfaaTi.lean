/- Stage 13: TablePlays. -/
import Derived.Test.YthbjkchgbjopfaaTg
import Derived.Test.YthbjkchgbjopfaaTh
import Derived.Test.YthbjkchgbjopfaaTw
namespace Go.Proofs.Ythbjkchgbjopfaa
set_option maxRecDepth 100000
open Go.RowKit Go.Shelf
def drIf (b : Bool) (s : Tb) (P : Int) : Tb := if b then s.dr P else s
theorem drIf_ne {l : Array Bool} {i j : Nat} (h : j ≠ i) (s : Tb) (P : Int) : drIf ((l.setIfInBounds i true).getD j false) s P = drIf (l.getD j false) s P := by rw [getD_set h]
theorem drIf_at {l : Array Bool} {i : Nat} (h : l.getD i true = false) (s : Tb) (P : Int) : drIf ((l.setIfInBounds i true).getD i false) s P = s.dr P := by
  rw [getD_set_self h]
  rfl
section
variable {PT : World → Nat → Tb → (Nat → Prop) → Prop} {g : Nat} {w W : World} {X : Nat → Prop} {p q : Nat} {s : Tb}
theorem same_m (HP : TabP PT g) (h : TwG PT RTA w X W p q s s) (hs : s.Ok) : Calls Try.prog 18 #[.pointer (some ⟨p, 0, none⟩), .pointer (some ⟨q, 0, none⟩)] W (ret (.bool true) W) := by
  obtain ⟨F, G, hF, hG, _⟩ := h
  exact tsame_any HP hF hG hs
theorem find_m (HP : TabP PT g) (h : TwG PT RTA w X W p q s s) (hs : s.Ok) (H X : Nat) (hH : H < 18446744073709551616) : Calls Try.prog 14 #[.pointer (some ⟨p, 0, none⟩), .agg #[.int .u64 (H : Int), .int .u32 (X : Int)]] W (ret (.tuple (s.fdV H X)) W) := by
  obtain ⟨F, G, hF, hG, _⟩ := h
  exact lfind_any HP hF hs H X hH
theorem rfind_m (h : TwG PT RTA w X W p q s s) (hs : s.Ok) (H X : Nat) (hH : H < 18446744073709551616) (hX : X < 4294967296) : Calls Try.prog 15 #[.pointer (some ⟨q, 0, none⟩), .int .u64 (H : Int), .int .u32 (X : Int)] W (ret (.tuple (s.fdV H X)) W) := by
  obtain ⟨F, G, hF, ⟨AF, cF, AM, cM, AE, cE, hG⟩, _⟩ := h
  exact rfind_any hG hs H X hH hX
theorem copy_third (HP : TabP PT g) (h : TwG PT RTA w X W p q s s) (hs : s.Ok) : Calls Try.prog 16 #[.pointer (some ⟨p, 0, none⟩)] W fun e w' => ∃ b, e = .returned (.pointer (some ⟨b, 0, none⟩)) ∧ ∃ Y, (∀ k, X k → Y k) ∧ StG PT w Y w' b s ∧ (∀ w2 : World, (∀ k, Y k → w2.heap[k]? = w'.heap[k]?) → Below w.heap.size w w2 → w'.heap.size ≤ w2.heap.size → TwG PT RTA w X w2 p q s s) ∧ ∀ k, X k → w'.heap[k]? = W.heap[k]? := by
  have hT := h
  have hx := h.xold
  obtain ⟨F, G, hF, _⟩ := h
  refine (HP.copy hF hs).mono ?_
  rintro e w' ⟨b, F', rfl, hc, hn, hb⟩
  obtain ⟨Y, h1, h2, h3⟩ := hT.third HP.foot rFoot hb hc hn
  exact ⟨b, rfl, Y, h1, h2, h3, fun k hk => hb.block k (hx k hk)⟩
theorem copy_three (HP : TabP PT g) (h : TwG PT RTA w X W p q s s) (hs : s.Ok) : Calls Try.prog 16 #[.pointer (some ⟨p, 0, none⟩)] W fun e w' => ∃ b, e = .returned (.pointer (some ⟨b, 0, none⟩)) ∧ ∃ Y, (∀ k, X k → Y k) ∧ StG PT w Y w' p s ∧ (∀ w2 : World, (∀ k, Y k → w2.heap[k]? = w'.heap[k]?) → Below w.heap.size w w2 → w'.heap.size ≤ w2.heap.size → TwG PT RTA w X w2 b q s s) ∧ ∀ k, X k → w'.heap[k]? = W.heap[k]? := by
  have hT := h
  have hx := h.xold
  obtain ⟨F, G, hF, _⟩ := h
  refine (HP.copy hF hs).mono ?_
  rintro e w' ⟨b, F', rfl, hc, hn, hb⟩
  obtain ⟨Y, h1, h2, h3⟩ := hT.three HP.foot rFoot HP.foot hb hc hn
  exact ⟨b, rfl, Y, h1, h2, h3, fun k hk => hb.block k (hx k hk)⟩
/-- A call on one object; the world grows. -/
theorem callS {σ : Type} {PA : World → Nat → σ → (Nat → Prop) → Prop} {t s' : σ} {fn : FuncId} {args : Array Value} {K : Ending → Prop} (h : StG PA w X W p t) (hc : ∀ F, PA W p t F → Calls Try.prog fn args W fun e w' => K e ∧ ∃ F', PA w' p s' F' ∧ ExtG F F' W w') :
    Calls Try.prog fn args W fun e w' => K e ∧ StG PA w X w' p s' ∧ (∀ k, X k → w'.heap[k]? = W.heap[k]?) ∧ W.heap.size ≤ w'.heap.size := by
  obtain ⟨F, hF, h1, h2, h3⟩ := h
  refine (hc F hF).mono ?_
  rintro e w' ⟨he, F', hp, hx⟩
  obtain ⟨a, b⟩ := StG.ext h1 h2 h3 hp hx
  exact ⟨he, a, b, hx.kept.size⟩
theorem rcopy_m (h : TwG PT RTA w X W p q s s) (HC : FootG PT) : Calls Try.prog 17 #[.pointer (some ⟨q, 0, none⟩)] W fun e w' => ∃ b, e = .returned (.pointer (some ⟨b, 0, none⟩)) ∧ TwG PT RTA w X w' p b s s := by
  obtain ⟨F, G, hF, ⟨AF, cF, AM, cM, AE, cE, hG⟩, h1, h2, h3, h4⟩ := h
  refine (rtcopy_any hG).mono ?_
  rintro e w' ⟨b, G', rfl, ha, hsub, hb⟩
  refine ⟨b, rfl, F, G', HC.keep hF (Kept.of_below hb fun _ => False) (fun _ _ q => q), ha, fun k hk => ⟨(h1 k hk).1, (h1 k hk).2.1, fun g => ?_⟩, fun k hk => ?_, fun k hk => Nat.lt_of_lt_of_le (h3 k hk) hb.size, h4.trans (hb.mono h4.size)⟩
  · rcases hsub k g with r | r
    · exact (h1 k hk).2.2 r.1
    · have := HC.old hF k hk
      omega
  · rcases hsub k hk with r | r
    · exact h2 k r.1
    · exact ⟨Nat.le_trans h4.size r.1, fun x => by have := h3 k x; omega⟩
theorem tplays_long (HP : TabP PT g) (n : Int) (A : Option Addr) (m c : Nat) (hm : 80 < m) (w : World) : Calls Try.prog 3 #[.int .i64 n, .slice A m c] w (ret (.bool true) w) := by
  have h1 : (80 : Int) < (m : Int) := by omega
  have HK := Lib.hid (tknown_any HP w)
  clear HP
  go_enter Try.func3, Try.ntmps3
  go_wp2_with (go_at_call 6; refine HK.out.mono ?_; rintro e u ⟨rfl, hb⟩)
  go_ret
  exact ⟨rfl, hb⟩
theorem tplays_mid (HP : TabP PT g) (n : Int) (hn : 256 < n) (hn2 : n ≤ 262144) (A : Option Addr) (m c : Nat) (hm : m ≤ 80) (w : World) : Calls Try.prog 3 #[.int .i64 n, .slice A m c] w (ret (.bool true) w) := by
  have h1 : ¬ (80 : Int) < (m : Int) := by omega
  have HK := Lib.hid (tknown_any HP w)
  clear HP
  go_enter Try.func3, Try.ntmps3
  go_wp2_with (go_at_call 6; refine HK.out.mono ?_; rintro e u ⟨rfl, hb⟩)
  go_ret
  exact ⟨rfl, hb⟩
theorem tplays_bad (HP : TabP PT g) (n : Int) (hn : n ≤ 256 ∨ 262144 < n) (hb : mayI n = false) (A : Option Addr) (m c : Nat) (hm : m ≤ 80) (w : World) : Calls Try.prog 3 #[.int .i64 n, .slice A m c] w (ret (.bool true) w) := by
  have h1 : ¬ (80 : Int) < (m : Int) := by omega
  have HN := Lib.hid (HP.new_no n w hb)
  have HM := Lib.hid fun W => rmay_any n W
  rw [hb] at HM
  have HK := Lib.hid fun W => tknown_any HP W
  clear HP hb
  rcases hn with hn | hn
  · have h2 : ¬ 256 < n := by omega
    go_enter Try.func3, Try.ntmps3
    go_wp2_with (first
      | (go_at_call 7
         refine HN.out.mono ?_
         rintro e v ⟨rfl, hb⟩
         have HB := Lib.hid hb
         clear hb)
      | (go_at_call 8
         refine (HM.out _).mono ?_
         rintro e v2 ⟨rfl, hb⟩
         have HB2 := Lib.hid (HB.out.trans (hb.mono HB.out.size))
         clear hb)
      | (go_at_call 6
         refine (HK.out _).mono ?_
         rintro e v3 ⟨rfl, hb⟩
         have HB3 := Lib.hid (HB2.out.trans (hb.mono HB2.out.size))
         clear hb))
    go_ret
    exact ⟨rfl, HB3.out⟩
  · have h2 : 256 < n := by omega
    have h3 : ¬ n ≤ 262144 := by omega
    go_enter Try.func3, Try.ntmps3
    go_wp2_with (first
      | (go_at_call 7
         refine HN.out.mono ?_
         rintro e v ⟨rfl, hb⟩
         have HB := Lib.hid hb
         clear hb)
      | (go_at_call 8
         refine (HM.out _).mono ?_
         rintro e v2 ⟨rfl, hb⟩
         have HB2 := Lib.hid (HB.out.trans (hb.mono HB.out.size))
         clear hb)
      | (go_at_call 6
         refine (HK.out _).mono ?_
         rintro e v3 ⟨rfl, hb⟩
         have HB3 := Lib.hid (HB2.out.trans (hb.mono HB2.out.size))
         clear hb))
    go_ret
    exact ⟨rfl, HB3.out⟩
set_option maxHeartbeats 8000000 in
theorem tplays_any (HP0 : TabP PT g) (n : Nat) (hn2 : n ≤ 256) (hmay : mayI (n : Int) = true) (A : Option Addr) (m c : Nat) (f : Nat → Value) (hm : m ≤ 80) (_hmc : m ≤ c) (_hc9 : c ≤ 9223372036854775807) (w : World) (hr : RdC w w.heap.size A (m * 4) f)
    (hf : ∀ i, i < m → ∃ (κ P : Int) (h x : Nat), h < 18446744073709551616 ∧ x < 4294967296 ∧ f (i * 4) = .int .i64 κ ∧ f (i * 4 + 1) = .int .i64 P ∧ f (i * 4 + 2) = .int .u64 (h : Int) ∧ f (i * 4 + 3) = .int .u32 (x : Int)) :
    Calls Try.prog 3 #[.int .i64 (n : Int), .slice A m c] w (ret (.bool true) w) := by
  have h1 : ¬ (80 : Int) < (m : Int) := by omega
  have h2 : ¬ (256 : Int) < (n : Int) := by omega
  have HP := Lib.hid HP0
  have HR := Lib.hid hr
  have HF := Lib.hid hf
  have hpos : 0 < n := by
    obtain ⟨k, e, h8, _⟩ := mayI_pos hmay
    omega
  have HNW := Lib.hid (HP0.new n w hmay)
  have HMY := Lib.hid fun W => rmay_any (n : Int) W
  rw [hmay] at HMY
  have HRN := Lib.hid fun W => rtnew_any W n hpos (by omega)
  have HOKN := Lib.hid (Tb.ok_new hpos (show n ≤ 262144 by omega))
  clear hr hf HP0 hmay
  go_enter Try.func3, Try.ntmps3
  go_upto_region 9 with (first
    | (go_at_call 7
       refine HNW.out.mono ?_
       rintro e u ⟨p0, F0, rfl, hp, hF0, hb⟩
       have HSP := Lib.hid (StG.start ⟨F0, hp, hF0⟩ hb)
       clear hp hF0 hb)
    | (go_at_call 8
       refine (HMY.out _).mono ?_
       rintro e u1 ⟨rfl, hb⟩
       have HSQ := Lib.hid (HSP.out.step HP.out.foot hb)
       clear hb)
    | (go_at_call 9
       refine (HRN.out _).mono ?_
       rintro e v ⟨q0, G0, rfl, hq, hG0, hb⟩
       have HT := Lib.hid (HSQ.out.beside HP.out.foot hb hq fun k hk => (hG0 k hk).1)
       clear hq hG0 hb))
  clear HSP HSQ
  go_wp2_with fail
  go_loopw [5, 7, 60] (fun a b i wr => ∃ (k p q : Nat) (s : Tb), k ≤ m ∧ a = .pointer (some ⟨p, 0, none⟩) ∧ b = .pointer (some ⟨q, 0, none⟩) ∧ i = .int .i64 (k : Int) ∧ (s.Ok ∧ s.n = n) ∧ TwG PT RTA w (fun _ => False) wr p q s s) (fun _ _ i _ => m - (intOf i).toNat)
  case atStart => exact ⟨0, p0, q0, Tb.new n, Nat.zero_le _, rfl, rfl, rfl, ⟨HOKN.out, rfl⟩, HT.out⟩
  case round =>
    obtain ⟨k, p, q, s, hkm0, rfl, rfl, rfl, hS, hT⟩ := hrel
    have HS := Lib.hid hS
    have HTr := Lib.hid hT
    clear hS hT HT
    by_cases hkm : k < m
    · rcases HR.out with h0 | ⟨bA, off, rfl, hbl, hcl⟩
      · omega
      obtain ⟨κ, P, h, x, hh, hx, hf0, hf1, hf2, hf3⟩ := HF.out k hkm
      have HH := Lib.hid hh
      have HXX := Lib.hid hx
      have hcell : ∀ j, j < 4 → wr.cell? ⟨bA, off + (k * 4 + j), none⟩ = some (f (k * 4 + j)) := fun j hj => (HTr.out.below.cell (p := ⟨bA, off + (k * 4 + j), none⟩) hbl).trans (hcl _ (by omega))
      have z0 : wr.cell? ⟨bA, off + k * 4, none⟩ = some (.int .i64 κ) := by rw [← hf0]; exact hcell 0 (by omega)
      have z1 : wr.cell? ⟨bA, off + k * 4 + 1, none⟩ = some (.int .i64 P) := by rw [← hf1, Nat.add_assoc]; exact hcell 1 (by omega)
      have z2 : wr.cell? ⟨bA, off + k * 4 + 2, none⟩ = some (.int .u64 (h : Int)) := by rw [← hf2, Nat.add_assoc]; exact hcell 2 (by omega)
      have z3 : wr.cell? ⟨bA, off + k * 4 + 3, none⟩ = some (.int .u32 (x : Int)) := by rw [← hf3, Nat.add_assoc]; exact hcell 3 (by omega)
      clear hcell hcl hf0 hf1 hf2 hf3 hh hx
      have i0 : (0 : Int) ≤ (k : Int) := by omega
      have i1 : (k : Int) < (m : Int) := by omega
      have i2 : ((k : Int)).toNat = k := by omega
      go_upto_region 12 with fail
      have HT1 := Lib.hid (HTr.out.box HP.out.foot rFoot (.cells #[.int .i64 κ, .int .i64 P, .int .u64 (h : Int), .int .u32 (x : Int)] 36))
      have HO1 : Hid ((wr.alloc (.cells #[.int .i64 κ, .int .i64 P, .int .u64 (h : Int), .int .u32 (x : Int)] 36)).heap[wr.heap.size]? = some (.cells #[.int .i64 κ, .int .i64 P, .int .u64 (h : Int), .int .u32 (x : Int)] 36 (0, 0))) := Lib.hid (heap_alloc_new wr _)
      obtain ⟨b9, hb9⟩ : ∃ b, b = wr.heap.size := ⟨_, rfl⟩
      rw [← hb9] at HT1 HO1 ⊢
      clear hb9 HTr z0 z1 z2 z3 HR HF i0 i1 i2 HNW HMY HRN HOKN
      generalize wr.alloc (.cells #[.int .i64 κ, .int .i64 P, .int .u64 (h : Int), .int .u32 (x : Int)] 36) = v1 at *
      have x0 : v1.cell? ⟨b9, 0, none⟩ = some (.int .i64 κ) := blk_cell HO1.out 0
      have zk : IntKind.i64.wrap ((k : Int) + 1) = (k : Int) + 1 := by rw [IntKind.wrap_i64]; omega
      go_upto_region 14 with fail
      clear x0
      by_cases c1 : κ = 1
      · subst c1
        have e0 : (0 : Int) = 0 := rfl
        clear e0
        have HOK : Hid ((s.pt h x).Ok ∧ (s.pt h x).n = n) := Lib.hid ⟨Tb.ok_pt HS.out.1 HH.out HXX.out, by rw [Tb.pt_n]; exact HS.out.2⟩
        obtain ⟨EI, hEI⟩ : ∃ E, E = s.ptI h := ⟨_, rfl⟩
        obtain ⟨EE, hEE⟩ : ∃ E, E = s.ptE h := ⟨_, rfl⟩
        have HEI := Lib.hid hEI
        have HEE := Lib.hid hEE
        clear hEI hEE
        have e0 : v1.cell? ⟨b9, 2, none⟩ = some (.int .u64 (h : Int)) := blk_cell HO1.out 2
        have e1 : v1.cell? ⟨b9, 3, none⟩ = some (.int .u32 (x : Int)) := blk_cell HO1.out 3
        go_upto_region 16 with (first
          | (go_at_call 10
             refine (HT1.out.callL rFoot fun G hG => HP.out.put hG HS.out.1 h x HH.out HXX.out).mono ?_
             rintro e v2 ⟨rfl, ht, hx⟩
             rw [← HEI.out, ← HEE.out]
             have HT2 := Lib.hid ht
             have HO2 : Hid (v2.heap[b9]? = some (.cells #[.int .i64 1, .int .i64 P, .int .u64 (h : Int), .int .u32 (x : Int)] 36 (0, 0))) := Lib.hid ((hx b9 (.inr rfl)).trans HO1.out)
             clear ht hx))
        clear e0 e1 HT1 HO1
        have e0 : v2.cell? ⟨b9, 2, none⟩ = some (.int .u64 (h : Int)) := blk_cell HO2.out 2
        have e1 : v2.cell? ⟨b9, 3, none⟩ = some (.int .u32 (x : Int)) := blk_cell HO2.out 3
        go_upto_region 17 with (first
          | (go_at_call 11
             refine (HT2.out.callR HP.out.foot fun G hG => rput_ext hG HS.out.1 h x HH.out HXX.out).mono ?_
             rintro e v3 ⟨rfl, ht, hx⟩
             rw [← HEI.out, ← HEE.out]
             have HT3 := Lib.hid ht
             clear ht hx))
        clear e0 e1 HT2 HO2
        go_wp2_with (first
          | (go_at_call 18
             refine (same_m HP.out HT3.out HOK.out.1).mono ?_
             rintro e vz ⟨rfl, hb⟩
             have HTz := Lib.hid ((HT3.out.step HP.out.foot rFoot hb).less (Y := fun _ => False) fun _ h => h.elim)
             clear hb))
        go_roundw
        case rel => exact ⟨k + 1, p, q, s.pt h x, by omega, rfl, rfl, by go_num, HOK.out, HTz.out⟩
        case measure => simp [intOf]; omega
      by_cases c2 : κ = 2
      · subst c2
        have e0 : (0 : Int) = 0 := rfl
        clear e0
        have e0 : v1.cell? ⟨b9, 2, none⟩ = some (.int .u64 (h : Int)) := blk_cell HO1.out 2
        have e1 : v1.cell? ⟨b9, 3, none⟩ = some (.int .u32 (x : Int)) := blk_cell HO1.out 3
        have HFD := Lib.hid (find_m HP.out HT1.out HS.out.1 h x HH.out)
        have HRF := Lib.hid fun W (hb : Below v1.heap.size v1 W) => rfind_m (HT1.out.step HP.out.foot rFoot hb) HS.out.1 h x HH.out HXX.out
        have hCASE : (s.find h x = none ∧ s.fdV h x = #[.int .i64 0, .bool false]) ∨ ∃ j, s.find h x = some j ∧ s.fdV h x = #[.int .i64 (j : Int), .bool true] := by
          unfold Tb.fdV
          cases hq : s.find h x with
          | none => exact .inl ⟨rfl, rfl⟩
          | some j => exact .inr ⟨j, rfl, rfl⟩
        rcases hCASE with ⟨hfn, hfv⟩ | ⟨j, hfn, hfv⟩
        · rw [hfv] at HFD HRF
          clear hfv
          go_upto_region 23 with (first
            | (go_at_call 14
               refine HFD.out.mono ?_
               rintro e v2 ⟨rfl, hb⟩
               have HB2 := Lib.hid hb
               clear hb))
          clear e0 e1
          have HO2 : Hid (v2.heap[b9]? = some (.cells #[.int .i64 2, .int .i64 P, .int .u64 (h : Int), .int .u32 (x : Int)] 36 (0, 0))) := Lib.hid ((HB2.out.block b9 (lt_heap HO1.out)).trans HO1.out)
          have e0 : v2.cell? ⟨b9, 2, none⟩ = some (.int .u64 (h : Int)) := blk_cell HO2.out 2
          have e1 : v2.cell? ⟨b9, 3, none⟩ = some (.int .u32 (x : Int)) := blk_cell HO2.out 3
          go_upto_region 24 with (first
            | (go_at_call 15
               refine (HRF.out v2 HB2.out).mono ?_
               rintro e v3 ⟨rfl, hb⟩
               have HB3 := Lib.hid (HB2.out.trans (hb.mono HB2.out.size))
               clear hb))
          clear e0 e1
          have HO3 : Hid (v3.heap[b9]? = some (.cells #[.int .i64 2, .int .i64 P, .int .u64 (h : Int), .int .u32 (x : Int)] 36 (0, 0))) := Lib.hid ((HB3.out.block b9 (lt_heap HO1.out)).trans HO1.out)
          have HT3 := Lib.hid (HT1.out.step HP.out.foot rFoot HB3.out)
          have e0 : v3.cell? ⟨b9, 0, none⟩ = some (.int .i64 2) := blk_cell HO3.out 0
          clear HT1 HO1 HB2 HB3 HO2 HFD HRF
          have HOK : Hid ((s).Ok ∧ (s).n = n) := Lib.hid ⟨HS.out.1, by rw [show s.n = s.n from rfl]; exact HS.out.2⟩
          go_upto_region 33 with fail
          clear e0
          go_wp2_with (first
            | (go_at_call 18
               refine (same_m HP.out HT3.out HOK.out.1).mono ?_
               rintro e vz ⟨rfl, hb⟩
               have HTz := Lib.hid ((HT3.out.step HP.out.foot rFoot hb).less (Y := fun _ => False) fun _ h => h.elim)
               clear hb))
          go_roundw
          case rel => exact ⟨k + 1, p, q, s, by omega, rfl, rfl, by go_num, HOK.out, HTz.out⟩
          case measure => simp [intOf]; omega
        · rw [hfv] at HFD HRF
          clear hfv
          go_upto_region 23 with (first
            | (go_at_call 14
               refine HFD.out.mono ?_
               rintro e v2 ⟨rfl, hb⟩
               have HB2 := Lib.hid hb
               clear hb))
          clear e0 e1
          have HO2 : Hid (v2.heap[b9]? = some (.cells #[.int .i64 2, .int .i64 P, .int .u64 (h : Int), .int .u32 (x : Int)] 36 (0, 0))) := Lib.hid ((HB2.out.block b9 (lt_heap HO1.out)).trans HO1.out)
          have e0 : v2.cell? ⟨b9, 2, none⟩ = some (.int .u64 (h : Int)) := blk_cell HO2.out 2
          have e1 : v2.cell? ⟨b9, 3, none⟩ = some (.int .u32 (x : Int)) := blk_cell HO2.out 3
          go_upto_region 24 with (first
            | (go_at_call 15
               refine (HRF.out v2 HB2.out).mono ?_
               rintro e v3 ⟨rfl, hb⟩
               have HB3 := Lib.hid (HB2.out.trans (hb.mono HB2.out.size))
               clear hb))
          clear e0 e1
          have HO3 : Hid (v3.heap[b9]? = some (.cells #[.int .i64 2, .int .i64 P, .int .u64 (h : Int), .int .u32 (x : Int)] 36 (0, 0))) := Lib.hid ((HB3.out.block b9 (lt_heap HO1.out)).trans HO1.out)
          have HT3 := Lib.hid (HT1.out.step HP.out.foot rFoot HB3.out)
          have e0 : v3.cell? ⟨b9, 0, none⟩ = some (.int .i64 2) := blk_cell HO3.out 0
          clear HT1 HO1 HB2 HB3 HO2 HFD HRF
          have HOK : Hid ((s).Ok ∧ (s).n = n) := Lib.hid ⟨HS.out.1, by rw [show s.n = s.n from rfl]; exact HS.out.2⟩
          go_upto_region 33 with fail
          clear e0
          go_wp2_with (first
            | (go_at_call 18
               refine (same_m HP.out HT3.out HOK.out.1).mono ?_
               rintro e vz ⟨rfl, hb⟩
               have HTz := Lib.hid ((HT3.out.step HP.out.foot rFoot hb).less (Y := fun _ => False) fun _ h => h.elim)
               clear hb))
          go_roundw
          case rel => exact ⟨k + 1, p, q, s, by omega, rfl, rfl, by go_num, HOK.out, HTz.out⟩
          case measure => simp [intOf]; omega
      by_cases c3 : κ = 3
      · subst c3
        have e0 : (0 : Int) = 0 := rfl
        clear e0
        have HOK : Hid ((s.dr P).Ok ∧ (s.dr P).n = n) := Lib.hid ⟨Tb.ok_dr HS.out.1 P, by rw [Tb.dr_n]; exact HS.out.2⟩
        obtain ⟨EE, hEE⟩ : ∃ E, E = s.drE P := ⟨_, rfl⟩
        have HEE := Lib.hid hEE
        clear hEE
        go_upto_region 19 with fail
        rename_i Kc hKc
        refine wp_region_invG (fun a0 l a W => l.size = 10 ∧ a0.tmps.size = 181 ∧ TwG PT RTA w (fun k => False ∨ k = b9) W p q (drIf (l.getD 3 false) s P) (drIf (l.getD 7 false) s P) ∧ W.heap[b9]? = some (.cells #[.int .i64 3, .int .i64 P, .int .u64 (h : Int), .int .u32 (x : Int)] 36 (0, 0)) ∧ FrU a0 (kv ([(0, 92), (1, 93), (2, 94), (3, 95), (4, 96), (5, 97), (6, 98), (7, 99), (8, 100), (9, 10)] : List (Nat × Nat)) (fun i => ([.pointer (some ⟨p, 0, none⟩), .pointer (some ⟨b9, 1, none⟩), .int .i64 P, .int .i64 EE, .pointer (some ⟨q, 0, none⟩), .pointer (some ⟨b9, 1, none⟩), .int .i64 P, .int .i64 EE, .bool true, .bool true][i]?).getD undef)) l a) ?_ ?_ ?_ ?_ ?_ ?_
        · kernel_rfl
        · exact fun _ _ _ h => h.1
        · kernel_rfl
        · exact ⟨by simp, rfl, by rw [getD_none, getD_none]; exact HT1.out.step HP.out.foot rFoot (Below.refl _ _).drew, HO1.out, FrU.start _ _ _⟩
        · intro l a W i5 o hI ho hn hdep
          obtain ⟨hl, hsz, hT, hO, hF⟩ := hI
          match i5, ho, hn with
          | 0, ho, hn =>
            simp only [List.getElem?_toArray, List.getElem?_cons_zero, Option.some.injEq] at ho
            subst ho
            refine ⟨rfl, ?_⟩
            have h5 : a.tmps[5]?.getD undef = .pointer (some ⟨p, 0, none⟩) := hF.baseK 5 rfl rfl
            exact owp_value (.pointer (some ⟨p, 0, none⟩)) (w' := W) (by clear hdep; go_simp) ⟨by simp [hl], hsz, by rw [drIf_ne (by decide), drIf_ne (by decide)]; exact hT, hO, hF.putK 0 92 _ (by rw [hsz]; decide) rfl rfl⟩
          | 1, ho, hn =>
            simp only [List.getElem?_toArray, List.getElem?_cons_zero, List.getElem?_cons_succ, Option.some.injEq] at ho
            subst ho
            refine ⟨rfl, ?_⟩
            have h9 : a.tmps[9]?.getD undef = .pointer (some ⟨b9, 0, none⟩) := hF.baseK 9 rfl rfl
            exact owp_value (.pointer (some ⟨b9, 1, none⟩)) (w' := W) (by clear hdep; go_simp) ⟨by simp [hl], hsz, by rw [drIf_ne (by decide), drIf_ne (by decide)]; exact hT, hO, hF.putK 1 93 _ (by rw [hsz]; decide) rfl rfl⟩
          | 2, ho, hn =>
            simp only [List.getElem?_toArray, List.getElem?_cons_zero, List.getElem?_cons_succ, Option.some.injEq] at ho
            subst ho
            refine ⟨rfl, ?_⟩
            have h93 := hF.slotK (i := 1) (s := 93) (v := .pointer (some ⟨b9, 1, none⟩)) rfl (hdep ⟨1, .data⟩ (by simp) rfl) rfl
            have hx1 : W.cell? ⟨b9, 1, none⟩ = some (.int .i64 P) := blk_cell hO 1
            exact owp_value (.int .i64 P) (w' := W) (by clear hdep; go_simp) ⟨by simp [hl], hsz, by rw [drIf_ne (by decide), drIf_ne (by decide)]; exact hT, hO, hF.putK 2 94 _ (by rw [hsz]; decide) rfl rfl⟩
          | 3, ho, hn =>
            simp only [List.getElem?_toArray, List.getElem?_cons_zero, List.getElem?_cons_succ, Option.some.injEq] at ho
            subst ho
            refine ⟨rfl, ?_⟩
            have h92 := hF.slotK (i := 0) (s := 92) (v := .pointer (some ⟨p, 0, none⟩)) rfl (hdep ⟨0, .data⟩ (by simp) rfl) rfl
            have h94 := hF.slotK (i := 2) (s := 94) (v := .int .i64 P) rfl (hdep ⟨2, .data⟩ (by simp) rfl) rfl
            rw [getD_no hn] at hT
            have hTs : TwG PT RTA w (fun k => False ∨ k = b9) W p q s (drIf (l.getD 7 false) s P) := hT
            refine owp_call (fn := 12) (args := #[.pointer (some ⟨p, 0, none⟩), .int .i64 P]) (by clear hdep; go_simp) ?_
            refine (hTs.callL rFoot fun G hG => HP.out.drop hG HS.out.1 P).mono ?_
            rintro e w' ⟨rfl, ht, hx⟩
            rw [← HEE.out]
            exact ⟨_, rfl, by simp [hl], hsz, by rw [drIf_at hn, drIf_ne (show 7 ≠ 3 by decide)]; exact ht, (hx b9 (.inr rfl)).trans hO, hF.putK 3 95 _ (by rw [hsz]; decide) rfl rfl⟩
          | 4, ho, hn =>
            simp only [List.getElem?_toArray, List.getElem?_cons_zero, List.getElem?_cons_succ, Option.some.injEq] at ho
            subst ho
            refine ⟨rfl, ?_⟩
            have h7 : a.tmps[7]?.getD undef = .pointer (some ⟨q, 0, none⟩) := hF.baseK 7 rfl rfl
            exact owp_value (.pointer (some ⟨q, 0, none⟩)) (w' := W) (by clear hdep; go_simp) ⟨by simp [hl], hsz, by rw [drIf_ne (by decide), drIf_ne (by decide)]; exact hT, hO, hF.putK 4 96 _ (by rw [hsz]; decide) rfl rfl⟩
          | 5, ho, hn =>
            simp only [List.getElem?_toArray, List.getElem?_cons_zero, List.getElem?_cons_succ, Option.some.injEq] at ho
            subst ho
            refine ⟨rfl, ?_⟩
            have h9 : a.tmps[9]?.getD undef = .pointer (some ⟨b9, 0, none⟩) := hF.baseK 9 rfl rfl
            exact owp_value (.pointer (some ⟨b9, 1, none⟩)) (w' := W) (by clear hdep; go_simp) ⟨by simp [hl], hsz, by rw [drIf_ne (by decide), drIf_ne (by decide)]; exact hT, hO, hF.putK 5 97 _ (by rw [hsz]; decide) rfl rfl⟩
          | 6, ho, hn =>
            simp only [List.getElem?_toArray, List.getElem?_cons_zero, List.getElem?_cons_succ, Option.some.injEq] at ho
            subst ho
            refine ⟨rfl, ?_⟩
            have h97 := hF.slotK (i := 5) (s := 97) (v := .pointer (some ⟨b9, 1, none⟩)) rfl (hdep ⟨5, .data⟩ (by simp) rfl) rfl
            have hx1 : W.cell? ⟨b9, 1, none⟩ = some (.int .i64 P) := blk_cell hO 1
            exact owp_value (.int .i64 P) (w' := W) (by clear hdep; go_simp) ⟨by simp [hl], hsz, by rw [drIf_ne (by decide), drIf_ne (by decide)]; exact hT, hO, hF.putK 6 98 _ (by rw [hsz]; decide) rfl rfl⟩
          | 7, ho, hn =>
            simp only [List.getElem?_toArray, List.getElem?_cons_zero, List.getElem?_cons_succ, Option.some.injEq] at ho
            subst ho
            refine ⟨rfl, ?_⟩
            have h96 := hF.slotK (i := 4) (s := 96) (v := .pointer (some ⟨q, 0, none⟩)) rfl (hdep ⟨4, .data⟩ (by simp) rfl) rfl
            have h98 := hF.slotK (i := 6) (s := 98) (v := .int .i64 P) rfl (hdep ⟨6, .data⟩ (by simp) rfl) rfl
            rw [getD_no hn] at hT
            have hTs : TwG PT RTA w (fun k => False ∨ k = b9) W p q (drIf (l.getD 3 false) s P) s := hT
            refine owp_call (fn := 13) (args := #[.pointer (some ⟨q, 0, none⟩), .int .i64 P]) (by clear hdep; go_simp) ?_
            refine (hTs.callR HP.out.foot fun G hG => rdrop_ext hG HS.out.1 P).mono ?_
            rintro e w' ⟨rfl, ht, hx⟩
            rw [← HEE.out]
            exact ⟨_, rfl, by simp [hl], hsz, by rw [drIf_at hn, drIf_ne (show 3 ≠ 7 by decide)]; exact ht, (hx b9 (.inr rfl)).trans hO, hF.putK 7 99 _ (by rw [hsz]; decide) rfl rfl⟩
          | 8, ho, hn =>
            simp only [List.getElem?_toArray, List.getElem?_cons_zero, List.getElem?_cons_succ, Option.some.injEq] at ho
            subst ho
            refine ⟨rfl, ?_⟩
            have h95 := hF.slotK (i := 3) (s := 95) (v := .int .i64 EE) rfl (hdep ⟨3, .data⟩ (by simp) rfl) rfl
            have h99 := hF.slotK (i := 7) (s := 99) (v := .int .i64 EE) rfl (hdep ⟨7, .data⟩ (by simp) rfl) rfl
            exact owp_value (.bool true) (w' := W) (by clear hdep; go_simp) ⟨by simp [hl], hsz, by rw [drIf_ne (by decide), drIf_ne (by decide)]; exact hT, hO, hF.putK 8 100 _ (by rw [hsz]; decide) rfl rfl⟩
          | 9, ho, hn =>
            simp only [List.getElem?_toArray, List.getElem?_cons_zero, List.getElem?_cons_succ, Option.some.injEq] at ho
            subst ho
            refine ⟨rfl, ?_⟩
            have h100 := hF.slotK (i := 8) (s := 100) (v := .bool true) rfl (hdep ⟨8, .data⟩ (by simp) rfl) rfl
            exact owp_value (.bool true) (w' := W) (by clear hdep; go_simp) ⟨by simp [hl], hsz, by rw [drIf_ne (by decide), drIf_ne (by decide)]; exact hT, hO, hF.putK 9 10 _ (by rw [hsz]; decide) rfl rfl⟩
          | i5 + 10, ho, hn => simp at ho
        · intro l a W1 hI hall
          obtain ⟨_, _, hT, hO, hF⟩ := hI
          have hall : ∀ i, i < 10 → l.getD i false = true := hall
          have ha := FrU.allQ (K := ([(0, 92), (1, 93), (2, 94), (3, 95), (4, 96), (5, 97), (6, 98), (7, 99), (8, 100), (9, 10)] : List (Nat × Nat))) (V := (fun i => ([.pointer (some ⟨p, 0, none⟩), .pointer (some ⟨b9, 1, none⟩), .int .i64 P, .int .i64 EE, .pointer (some ⟨q, 0, none⟩), .pointer (some ⟨b9, 1, none⟩), .int .i64 P, .int .i64 EE, .bool true, .bool true][i]?).getD undef)) (BL := ([(0, 92, .pointer (some ⟨p, 0, none⟩)), (1, 93, .pointer (some ⟨b9, 1, none⟩)), (2, 94, .int .i64 P), (3, 95, .int .i64 EE), (4, 96, .pointer (some ⟨q, 0, none⟩)), (5, 97, .pointer (some ⟨b9, 1, none⟩)), (6, 98, .int .i64 P), (7, 99, .int .i64 EE), (8, 100, .bool true), (9, 10, .bool true)] : List (Nat × Nat × Value))) hF rfl (n := 10) hall rfl
          subst ha
          rw [hall 3 (by decide), hall 7 (by decide)] at hT
          have HT2 : Hid (TwG PT RTA w (fun k => False ∨ k = b9) W1 p q (s.dr P) (s.dr P)) := Lib.hid hT
          clear hF hall hT hO HT1 HO1
          refine hKc _ _ ?_
          simp only [setAll, List.setIfInBounds_toArray, List.set_cons_succ, List.set_cons_zero]
          go_wp2_with (first
            | (go_at_call 18
               refine (same_m HP.out HT2.out HOK.out.1).mono ?_
               rintro e vz ⟨rfl, hb⟩
               have HTz := Lib.hid ((HT2.out.step HP.out.foot rFoot hb).less (Y := fun _ => False) fun _ h => h.elim)
               clear hb))
          go_roundw
          case rel => exact ⟨k + 1, p, q, s.dr P, by omega, rfl, rfl, by go_num, HOK.out, HTz.out⟩
          case measure => simp [intOf]; omega
      by_cases c4 : κ = 4
      · subst c4
        have e0 : (0 : Int) = 0 := rfl
        clear e0
        have e0 : v1.cell? ⟨b9, 2, none⟩ = some (.int .u64 (h : Int)) := blk_cell HO1.out 2
        have e1 : v1.cell? ⟨b9, 3, none⟩ = some (.int .u32 (x : Int)) := blk_cell HO1.out 3
        have HFD := Lib.hid (find_m HP.out HT1.out HS.out.1 h x HH.out)
        have HRF := Lib.hid fun W (hb : Below v1.heap.size v1 W) => rfind_m (HT1.out.step HP.out.foot rFoot hb) HS.out.1 h x HH.out HXX.out
        have hCASE : (s.find h x = none ∧ s.fdV h x = #[.int .i64 0, .bool false]) ∨ ∃ j, s.find h x = some j ∧ s.fdV h x = #[.int .i64 (j : Int), .bool true] := by
          unfold Tb.fdV
          cases hq : s.find h x with
          | none => exact .inl ⟨rfl, rfl⟩
          | some j => exact .inr ⟨j, rfl, rfl⟩
        rcases hCASE with ⟨hfn, hfv⟩ | ⟨j, hfn, hfv⟩
        · rw [hfv] at HFD HRF
          clear hfv
          go_upto_region 23 with (first
            | (go_at_call 14
               refine HFD.out.mono ?_
               rintro e v2 ⟨rfl, hb⟩
               have HB2 := Lib.hid hb
               clear hb))
          clear e0 e1
          have HO2 : Hid (v2.heap[b9]? = some (.cells #[.int .i64 4, .int .i64 P, .int .u64 (h : Int), .int .u32 (x : Int)] 36 (0, 0))) := Lib.hid ((HB2.out.block b9 (lt_heap HO1.out)).trans HO1.out)
          have e0 : v2.cell? ⟨b9, 2, none⟩ = some (.int .u64 (h : Int)) := blk_cell HO2.out 2
          have e1 : v2.cell? ⟨b9, 3, none⟩ = some (.int .u32 (x : Int)) := blk_cell HO2.out 3
          go_upto_region 24 with (first
            | (go_at_call 15
               refine (HRF.out v2 HB2.out).mono ?_
               rintro e v3 ⟨rfl, hb⟩
               have HB3 := Lib.hid (HB2.out.trans (hb.mono HB2.out.size))
               clear hb))
          clear e0 e1
          have HO3 : Hid (v3.heap[b9]? = some (.cells #[.int .i64 4, .int .i64 P, .int .u64 (h : Int), .int .u32 (x : Int)] 36 (0, 0))) := Lib.hid ((HB3.out.block b9 (lt_heap HO1.out)).trans HO1.out)
          have HT3 := Lib.hid (HT1.out.step HP.out.foot rFoot HB3.out)
          have e0 : v3.cell? ⟨b9, 0, none⟩ = some (.int .i64 4) := blk_cell HO3.out 0
          clear HT1 HO1 HB2 HB3 HO2 HFD HRF
          have HOK : Hid ((s).Ok ∧ (s).n = n) := Lib.hid ⟨HS.out.1, by rw [show s.n = s.n from rfl]; exact HS.out.2⟩
          go_upto_region 33 with fail
          clear e0
          go_wp2_with (first
            | (go_at_call 18
               refine (same_m HP.out HT3.out HOK.out.1).mono ?_
               rintro e vz ⟨rfl, hb⟩
               have HTz := Lib.hid ((HT3.out.step HP.out.foot rFoot hb).less (Y := fun _ => False) fun _ h => h.elim)
               clear hb))
          go_roundw
          case rel => exact ⟨k + 1, p, q, s, by omega, rfl, rfl, by go_num, HOK.out, HTz.out⟩
          case measure => simp [intOf]; omega
        · rw [hfv] at HFD HRF
          clear hfv
          go_upto_region 23 with (first
            | (go_at_call 14
               refine HFD.out.mono ?_
               rintro e v2 ⟨rfl, hb⟩
               have HB2 := Lib.hid hb
               clear hb))
          clear e0 e1
          have HO2 : Hid (v2.heap[b9]? = some (.cells #[.int .i64 4, .int .i64 P, .int .u64 (h : Int), .int .u32 (x : Int)] 36 (0, 0))) := Lib.hid ((HB2.out.block b9 (lt_heap HO1.out)).trans HO1.out)
          have e0 : v2.cell? ⟨b9, 2, none⟩ = some (.int .u64 (h : Int)) := blk_cell HO2.out 2
          have e1 : v2.cell? ⟨b9, 3, none⟩ = some (.int .u32 (x : Int)) := blk_cell HO2.out 3
          go_upto_region 24 with (first
            | (go_at_call 15
               refine (HRF.out v2 HB2.out).mono ?_
               rintro e v3 ⟨rfl, hb⟩
               have HB3 := Lib.hid (HB2.out.trans (hb.mono HB2.out.size))
               clear hb))
          clear e0 e1
          have HO3 : Hid (v3.heap[b9]? = some (.cells #[.int .i64 4, .int .i64 P, .int .u64 (h : Int), .int .u32 (x : Int)] 36 (0, 0))) := Lib.hid ((HB3.out.block b9 (lt_heap HO1.out)).trans HO1.out)
          have HT3 := Lib.hid (HT1.out.step HP.out.foot rFoot HB3.out)
          have e0 : v3.cell? ⟨b9, 0, none⟩ = some (.int .i64 4) := blk_cell HO3.out 0
          clear HT1 HO1 HB2 HB3 HO2 HFD HRF
          have HOK : Hid ((s.dr (j : Int)).Ok ∧ (s.dr (j : Int)).n = n) := Lib.hid ⟨Tb.ok_dr HS.out.1 _, by rw [Tb.dr_n]; exact HS.out.2⟩
          obtain ⟨EE, hEE⟩ : ∃ E, E = s.drE (j : Int) := ⟨_, rfl⟩
          have HEE := Lib.hid hEE
          clear hEE
          go_upto_region 33 with (first
            | (go_at_call 12
               refine (HT3.out.callL rFoot fun G hG => HP.out.drop hG HS.out.1 (j : Int)).mono ?_
               rintro e v4 ⟨rfl, ht, hx⟩
               rw [← HEE.out]
               have HT4 := Lib.hid ht
               clear ht hx)
            | (go_at_call 13
               refine (HT4.out.callR HP.out.foot fun G hG => rdrop_ext hG HS.out.1 (j : Int)).mono ?_
               rintro e v5 ⟨rfl, ht, hx⟩
               rw [← HEE.out]
               have HT5 := Lib.hid ht
               clear ht hx))
          clear e0
          go_wp2_with (first
            | (go_at_call 18
               refine (same_m HP.out HT5.out HOK.out.1).mono ?_
               rintro e vz ⟨rfl, hb⟩
               have HTz := Lib.hid ((HT5.out.step HP.out.foot rFoot hb).less (Y := fun _ => False) fun _ h => h.elim)
               clear hb))
          go_roundw
          case rel => exact ⟨k + 1, p, q, s.dr (j : Int), by omega, rfl, rfl, by go_num, HOK.out, HTz.out⟩
          case measure => simp [intOf]; omega
      by_cases c5 : κ = 5
      · subst c5
        have e0 : (0 : Int) = 0 := rfl
        clear e0
        have HOK : Hid ((s).Ok ∧ (s).n = n) := Lib.hid ⟨HS.out.1, by rw [show s.n = s.n from rfl]; exact HS.out.2⟩
        go_upto_region 27 with (first
          | (go_at_call 16
             refine (copy_three HP.out HT1.out HS.out.1).mono ?_
             rintro e v2 ⟨b, rfl, Y, hXY, hst, hback, hsz⟩
             have HS2 := Lib.hid hst
             have HY := Lib.hid hXY
             have HBK := Lib.hid hback
             have HO2 : Hid (v2.heap[b9]? = some (.cells #[.int .i64 5, .int .i64 P, .int .u64 (h : Int), .int .u32 (x : Int)] 36 (0, 0))) := Lib.hid ((hsz b9 (.inr rfl)).trans HO1.out)
             clear hst hXY hback hsz))
        clear HT1 HO1
        have e0 : v2.cell? ⟨b9, 2, none⟩ = some (.int .u64 (h : Int)) := blk_cell HO2.out 2
        have e1 : v2.cell? ⟨b9, 3, none⟩ = some (.int .u32 (x : Int)) := blk_cell HO2.out 3
        go_upto_region 28 with (first
          | (go_at_call 10
             refine (callS HS2.out fun G hG => HP.out.put hG HS.out.1 h x HH.out HXX.out).mono ?_
             rintro e v3 ⟨rfl, ht, hx, hz⟩
             have HT3 := Lib.hid (HBK.out v3 hx ht.below hz)
             clear ht hx hz))
        clear e0 e1 HO2 HS2 HBK HY
        go_upto_region 33 with (first
          | (go_at_call 17
             refine (rcopy_m HT3.out HP.out.foot).mono ?_
             rintro e v4 ⟨q2, rfl, ht⟩
             have HT4 := Lib.hid ht
             clear ht))
        clear HT3
        go_wp2_with (first
          | (go_at_call 18
             refine (same_m HP.out HT4.out HOK.out.1).mono ?_
             rintro e vz ⟨rfl, hb⟩
             have HTz := Lib.hid ((HT4.out.step HP.out.foot rFoot hb).less (Y := fun _ => False) fun _ h => h.elim)
             clear hb))
        go_roundw
        case rel => exact ⟨k + 1, b, q2, s, by omega, rfl, rfl, by go_num, HOK.out, HTz.out⟩
        case measure => simp [intOf]; omega
      by_cases c6 : κ = 6
      · subst c6
        have e0 : (0 : Int) = 0 := rfl
        clear e0
        have HOK : Hid ((s).Ok ∧ (s).n = n) := Lib.hid ⟨HS.out.1, by rw [show s.n = s.n from rfl]; exact HS.out.2⟩
        go_upto_region 31 with (first
          | (go_at_call 16
             refine (copy_third HP.out HT1.out HS.out.1).mono ?_
             rintro e v2 ⟨b, rfl, Y, hXY, hst, hback, hsz⟩
             have HS2 := Lib.hid hst
             have HY := Lib.hid hXY
             have HBK := Lib.hid hback
             have HO2 : Hid (v2.heap[b9]? = some (.cells #[.int .i64 6, .int .i64 P, .int .u64 (h : Int), .int .u32 (x : Int)] 36 (0, 0))) := Lib.hid ((hsz b9 (.inr rfl)).trans HO1.out)
             clear hst hXY hback hsz))
        clear HT1 HO1
        have e0 : v2.cell? ⟨b9, 2, none⟩ = some (.int .u64 (h : Int)) := blk_cell HO2.out 2
        have e1 : v2.cell? ⟨b9, 3, none⟩ = some (.int .u32 (x : Int)) := blk_cell HO2.out 3
        go_upto_region 32 with (first
          | (go_at_call 10
             refine (callS HS2.out fun G hG => HP.out.put hG HS.out.1 h x HH.out HXX.out).mono ?_
             rintro e v3 ⟨rfl, ht, hx, hz⟩
             have HS3 := Lib.hid ht
             have HX3 := Lib.hid hx
             have HZ3 := Lib.hid hz
             have HO3 : Hid (v3.heap[b9]? = some (.cells #[.int .i64 6, .int .i64 P, .int .u64 (h : Int), .int .u32 (x : Int)] 36 (0, 0))) := Lib.hid ((hx b9 (HY.out b9 (.inr rfl))).trans HO2.out)
             clear ht hx hz))
        clear e0 e1 HO2 HS2
        have e2 : v3.cell? ⟨b9, 1, none⟩ = some (.int .i64 P) := blk_cell HO3.out 1
        go_upto_region 33 with (first
          | (go_at_call 12
             refine (callS HS3.out fun G hG => HP.out.drop hG (Tb.ok_pt HS.out.1 HH.out HXX.out) P).mono ?_
             rintro e v4 ⟨rfl, ht, hx, hz⟩
             have HT4 := Lib.hid (HBK.out v4 (fun k hk => (hx k hk).trans (HX3.out k hk)) ht.below (Nat.le_trans HZ3.out hz))
             clear ht hx hz))
        clear e2 HS3 HX3 HZ3 HBK HY HO3
        go_wp2_with (first
          | (go_at_call 18
             refine (same_m HP.out HT4.out HOK.out.1).mono ?_
             rintro e vz ⟨rfl, hb⟩
             have HTz := Lib.hid ((HT4.out.step HP.out.foot rFoot hb).less (Y := fun _ => False) fun _ h => h.elim)
             clear hb))
        go_roundw
        case rel => exact ⟨k + 1, p, q, s, by omega, rfl, rfl, by go_num, HOK.out, HTz.out⟩
        case measure => simp [intOf]; omega
      have c1 : (κ == 1) = false := by simpa using c1
      have c2 : (κ == 2) = false := by simpa using c2
      have c3 : (κ == 3) = false := by simpa using c3
      have c4 : (κ == 4) = false := by simpa using c4
      have c5 : (κ == 5) = false := by simpa using c5
      have c6 : (κ == 6) = false := by simpa using c6
      have HOK : Hid ((s).Ok ∧ (s).n = n) := Lib.hid ⟨HS.out.1, by rw [show s.n = s.n from rfl]; exact HS.out.2⟩
      go_upto_region 33 with fail
      go_wp2_with (first
        | (go_at_call 18
           refine (same_m HP.out HT1.out HOK.out.1).mono ?_
           rintro e vz ⟨rfl, hb⟩
           have HTz := Lib.hid ((HT1.out.step HP.out.foot rFoot hb).less (Y := fun _ => False) fun _ h => h.elim)
           clear hb))
      go_roundw
      case rel => exact ⟨k + 1, p, q, s, by omega, rfl, rfl, by go_num, HOK.out, HTz.out⟩
      case measure => simp [intOf]; omega
    · obtain rfl : m = k := by omega
      have HK := Lib.hid (tknown_any HP.out wr)
      go_wp2_with (first
        | (go_at_call 6
           refine HK.out.mono ?_
           rintro e uz ⟨rfl, hb⟩))
      go_ret
      exact ⟨rfl, HTr.out.below.trans (hb.mono HTr.out.below.size)⟩
end
end Go.Proofs.Ythbjkchgbjopfaa
