/- Stage 9: ArenaPlays. -/
import Derived.Test.YthljpfmonienlaaLj
namespace Go.Proofs.Ythljpfmonienlaa
set_option maxRecDepth 100000
open Go.RowKit Go.Shelf
theorem frIf_ne {l : Array Bool} {i j : Nat} (h : j ≠ i) (s : Ar) (x : Int) (y : Nat) : Ar.frIf ((l.setIfInBounds i true).getD j false) s x y = Ar.frIf (l.getD j false) s x y := by rw [getD_set h]
theorem frIf_at {l : Array Bool} {i : Nat} (h : l.getD i true = false) (s : Ar) (x : Int) (y : Nat) : Ar.frIf ((l.setIfInBounds i true).getD i false) s x y = s.fr x y := by
  rw [getD_set_self h]
  rfl
theorem rng2 {W : World} {g : Nat} {cs : Array Value} {t : TypeId} {a b : Value} (h : W.heap[g]? = some (.cells cs t (0, 0))) (o : Nat) (h0 : cs[o]? = some a) (h1 : cs[o + 1]? = some b) : W.rangeAt g o [a, b] := fun j v hv => by
  rw [blk_cell h (o + j)]
  match j, hv with
  | 0, hv => rw [← hv]; exact h0
  | 1, hv => rw [← hv]; exact h1
theorem eg_p (args : Array Value) (w : World) : (callFunc 27 args).run Try.prog w = .ok (.enter 27 args) w := enters_of Try.func27 (by kernel_rfl) rfl args w
theorem same_m {w W : World} {X : Nat → Prop} {p q : Nat} {s : Ar} (h : Two PA RA w X W p q s s) (hs : s.Ok) (hn : s.has.length ≤ 65536) (hi : Int) (hk : Nat) : Calls Try.prog 16 #[.pointer (some ⟨p, 0, none⟩), .pointer (some ⟨q, 0, none⟩), .agg #[.int .i64 hi, .int .u64 (hk : Int)]] W fun e w' => e = .returned (.bool true) ∧ Below W.heap.size W w' := by
  obtain ⟨F, G, hF, hG, _⟩ := h
  exact same_any 27 eg_p p q s hs hn G hi hk W (preads hF hn) hG
theorem at_m {w W : World} {X : Nat → Prop} {p q : Nat} {s : Ar} (h : Two PA RA w X W p q s s) (hn : s.has.length ≤ 65536) (i : Int) : Calls Try.prog 13 #[.pointer (some ⟨p, 0, none⟩), .int .i64 i] W (ret (.tuple #[.agg (s.hat i), .bool (s.is_ i)]) W) := by
  obtain ⟨F, G, hF, hG, _⟩ := h
  exact pat_any hF hn i
theorem plays_long (n : Int) (A : Option Addr) (m c : Nat) (hm : 80 < m) (w : World) : Calls Try.prog 3 #[.int .i64 n, .slice A m c] w fun e w' => e = .returned (.bool true) ∧ Below w.heap.size w w' := by
  have h1 : (80 : Int) < (m : Int) := by omega
  go_enter Try.func3, Try.ntmps3
  go_wp2_with (first
    | (go_at_call 6
       refine (known_p w).mono ?_
       rintro e u ⟨rfl, hb⟩))
  go_ret
  exact ⟨rfl, hb⟩
theorem plays_mid (n : Int) (hn : 100 < n) (hn2 : n ≤ 65536) (A : Option Addr) (m c : Nat) (hm : m ≤ 80) (w : World) : Calls Try.prog 3 #[.int .i64 n, .slice A m c] w fun e w' => e = .returned (.bool true) ∧ Below w.heap.size w w' := by
  have h1 : ¬ (80 : Int) < (m : Int) := by omega
  go_enter Try.func3, Try.ntmps3
  go_wp2_with (first
    | (go_at_call 6
       refine (known_p w).mono ?_
       rintro e u ⟨rfl, hb⟩))
  go_ret
  exact ⟨rfl, hb⟩
theorem plays_bad (n : Int) (hn : n < 1 ∨ 65536 < n) (A : Option Addr) (m c : Nat) (hm : m ≤ 80) (w : World) : Calls Try.prog 3 #[.int .i64 n, .slice A m c] w fun e w' => e = .returned (.bool true) ∧ Below w.heap.size w w' := by
  have h1 : ¬ (80 : Int) < (m : Int) := by omega
  rcases hn with hn | hn
  · have h2 : ¬ 100 < n := by omega
    go_enter Try.func3, Try.ntmps3
    go_wp2_with (first
      | (go_at_call 7
         refine (pnew_bad w n (.inl hn)).mono ?_
         rintro e v ⟨rfl, hb⟩
         have HB := Lib.hid hb
         clear hb)
      | (go_at_call 6
         refine (known_p v).mono ?_
         rintro e u ⟨rfl, hb⟩))
    go_ret
    exact ⟨rfl, HB.out.trans (hb.mono HB.out.size)⟩
  · have h2 : 100 < n := by omega
    have h3 : ¬ n ≤ 65536 := by omega
    have h4 : ¬ n < 1 := by omega
    go_enter Try.func3, Try.ntmps3
    go_wp2_with (first
      | (go_at_call 7
         refine (pnew_bad w n (.inr hn)).mono ?_
         rintro e v ⟨rfl, hb⟩
         have HB := Lib.hid hb
         clear hb)
      | (go_at_call 6
         refine (known_p v).mono ?_
         rintro e u ⟨rfl, hb⟩))
    go_ret
    exact ⟨rfl, HB.out.trans (hb.mono HB.out.size)⟩
set_option maxHeartbeats 4000000 in
theorem plays_any (n : Nat) (hn1 : 1 ≤ n) (hn2 : n ≤ 100) (A : Option Addr) (m c : Nat) (f : Nat → Value) (hm : m ≤ 80) (_hmc : m ≤ c) (_hc9 : c ≤ 9223372036854775807) (w : World) (hr : RdC w w.heap.size A (m * 3) f)
    (hf : ∀ i, i < m → ∃ (κ hi : Int) (hk : Nat), f (i * 3) = .int .i64 κ ∧ f (i * 3 + 1) = .int .i64 hi ∧ f (i * 3 + 2) = .int .u64 (hk : Int)) :
    Calls Try.prog 3 #[.int .i64 (n : Int), .slice A m c] w fun e w' => e = .returned (.bool true) ∧ Below w.heap.size w w' := by
  have h1 : ¬ (80 : Int) < (m : Int) := by omega
  have h2 : ¬ (100 : Int) < (n : Int) := by omega
  have h3 : ¬ (n : Int) < 1 := by omega
  have h4 : ¬ (65536 : Int) < (n : Int) := by omega
  have HR := Lib.hid hr
  have HF := Lib.hid hf
  clear hr hf
  go_enter Try.func3, Try.ntmps3
  go_upto_region 8 with (first
    | (go_at_call 7
       refine (pnew_st w n hn1 (by omega)).mono ?_
       rintro e u ⟨p0, F0, rfl, hp, hF0, hb⟩
       have HP := Lib.hid hp
       have HF0 := Lib.hid hF0
       have HB := Lib.hid hb
       clear hp hF0 hb))
  go_upto_region 9 with (first
    | (go_at_call 8
       refine (rnew_any n (by omega) u).mono ?_
       rintro e v ⟨q0, G0, rfl, hq, hG0, hb⟩
       have HT : Hid (Two PA RA w (fun _ => False) v p0 q0 (Ar.new n) (Ar.new n)) := Lib.hid ⟨F0, G0, HP.out.step hb, hq, fun k hk => ⟨HF0.out k hk, fun h => h, fun hg => by have := HP.out.old k hk; have := hG0 k hg; omega⟩, fun k hk => ⟨Nat.le_trans HB.out.size (hG0 k hk), fun h => h⟩, fun k h => h.elim, HB.out.trans (hb.mono HB.out.size)⟩
       clear hq hG0 hb))
  clear HP HF0 HB
  go_wp2_with fail
  go_loopw [5, 7, 61] (fun a b i wr => ∃ (k p q : Nat) (s : Ar), k ≤ m ∧ a = .pointer (some ⟨p, 0, none⟩) ∧ b = .pointer (some ⟨q, 0, none⟩) ∧ i = .int .i64 (k : Int) ∧ (s.Ok ∧ s.has.length = n ∧ s.serial ≤ k) ∧ Two PA RA w (fun _ => False) wr p q s s) (fun _ _ i _ => m - (intOf i).toNat)
  case atStart => exact ⟨0, p0, q0, Ar.new n, Nat.zero_le _, rfl, rfl, rfl, ⟨Ar.ok_new n, List.length_replicate, Nat.le_refl _⟩, HT.out⟩
  case round =>
    obtain ⟨k, p, q, s, hkm0, rfl, rfl, rfl, hS, hT⟩ := hrel
    have HS := Lib.hid hS
    have HTr := Lib.hid hT
    have HSO := Lib.hid hS.1
    have HSN : Hid (s.has.length ≤ 65536) := Lib.hid (by have := hS.2.1; omega)
    have HSS : Hid (s.serial ≤ 4611686018427387904) := Lib.hid (by have := hS.2.2; omega)
    clear hS hT HT
    by_cases hkm : k < m
    · rcases HR.out with h0 | ⟨bA, off, rfl, hbl, hcl⟩
      · omega
      obtain ⟨κ, hi, hk, hf0, hf1, hf2⟩ := HF.out k hkm
      have hcell : ∀ j, j < 3 → wr.cell? ⟨bA, off + (k * 3 + j), none⟩ = some (f (k * 3 + j)) := fun j hj => (HTr.out.below.cell (p := ⟨bA, off + (k * 3 + j), none⟩) hbl).trans (hcl _ (by omega))
      have z0 : wr.cell? ⟨bA, off + k * 3, none⟩ = some (.int .i64 κ) := by rw [← hf0]; exact hcell 0 (by omega)
      have z1 : wr.cell? ⟨bA, off + k * 3 + 1, none⟩ = some (.int .i64 hi) := by rw [← hf1, Nat.add_assoc]; exact hcell 1 (by omega)
      have z2 : wr.cell? ⟨bA, off + k * 3 + 2, none⟩ = some (.int .u64 (hk : Int)) := by rw [← hf2, Nat.add_assoc]; exact hcell 2 (by omega)
      clear hcell hcl hf0 hf1 hf2
      have i0 : (0 : Int) ≤ (k : Int) := by omega
      have i1 : (k : Int) < (m : Int) := by omega
      have i2 : ((k : Int)).toNat = k := by omega
      go_upto_region 13 with fail
      have HT1 := Lib.hid (HTr.out.box pArC rArC (.cells #[.int .i64 κ, .int .i64 hi, .int .u64 (hk : Int)] 34))
      have HO1 : Hid ((wr.alloc (.cells #[.int .i64 κ, .int .i64 hi, .int .u64 (hk : Int)] 34)).heap[wr.heap.size]? = some (.cells #[.int .i64 κ, .int .i64 hi, .int .u64 (hk : Int)] 34 (0, 0))) := Lib.hid (heap_alloc_new wr _)
      obtain ⟨b9, hb9⟩ : ∃ b, b = wr.heap.size := ⟨_, rfl⟩
      rw [← hb9] at HT1 HO1 ⊢
      clear hb9 HTr z0 z1 z2 HR HF i0 i1 i2
      generalize wr.alloc (.cells #[.int .i64 κ, .int .i64 hi, .int .u64 (hk : Int)] 34) = v1 at *
      have x0 : v1.cell? ⟨b9, 0, none⟩ = some (.int .i64 κ) := blk_cell HO1.out 0
      have zk : IntKind.i64.wrap ((k : Int) + 1) = (k : Int) + 1 := by rw [IntKind.wrap_i64]; omega
      go_upto_region 14 with fail
      clear x0
      by_cases c1 : κ = 1
      · subst c1
        have e0 : (0 : Int) = 0 := rfl
        clear e0
        have HOK : Hid ((s.tk).Ok ∧ (s.tk).has.length ≤ 65536 ∧ (s.tk).has.length = n ∧ (s.tk).serial ≤ k + 1) := Lib.hid ⟨Ar.ok_tk HS.out.1, by rw [Ar.tk_len]; have := HS.out.2.1; omega, by rw [Ar.tk_len]; exact HS.out.2.1, by have := s.tk_serial; have := HS.out.2.2; omega⟩
        obtain ⟨ta, tb, htk⟩ := s.tkH_eq
        have HTK := Lib.hid htk
        obtain ⟨E, hE⟩ : ∃ E, E = s.tkE := ⟨_, rfl⟩
        have HE := Lib.hid hE
        clear htk hE
        have hEE : (E == E) = true := by simp
        have heq : ∀ (V : World), (binOp .eql 32 (.agg #[.int .i64 ta, .int .u64 tb]) (.agg #[.int .i64 ta, .int .u64 tb])).run Try.prog V = .ok (.bool true) V := fun V => by rw [eqlH]; simp
        go_upto_region 16 with (first
          | (go_at_call 9
             refine (HT1.out.take pArC rArC HS.out.1 HSN.out HSS.out).mono ?_
             rintro e v2 ⟨rfl, ht, hx⟩
             rw [HTK.out, ← HE.out]
             have HT2 := Lib.hid (ht.box pArC rArC (.cells #[.int .i64 ta, .int .u64 tb] 32))
             have HO2 : Hid ((v2.alloc (.cells #[.int .i64 ta, .int .u64 tb] 32)).heap[b9]? = some (.cells #[.int .i64 1, .int .i64 hi, .int .u64 (hk : Int)] 34 (0, 0))) := Lib.hid (blk_old ((hx b9 (.inr rfl)).trans HO1.out) _)
             have HA2 : Hid ((v2.alloc (.cells #[.int .i64 ta, .int .u64 tb] 32)).heap[v2.heap.size]? = some (.cells #[.int .i64 ta, .int .u64 tb] 32 (0, 0))) := Lib.hid (heap_alloc_new v2 _)
             clear ht hx))
        obtain ⟨b11, hb11⟩ : ∃ b, b = v2.heap.size := ⟨_, rfl⟩
        rw [← hb11] at HT2 HA2 ⊢
        clear hb11 HT1 HO1
        generalize (v2.alloc (.cells #[.int .i64 ta, .int .u64 tb] 32)) = v3 at *
        go_upto_region 17 with (first
          | (go_at_call 10
             refine (HT2.out.symm.take rArC pArC HS.out.1 HSN.out HSS.out).mono ?_
             rintro e v4 ⟨rfl, ht, hx⟩
             rw [HTK.out, ← HE.out]
             have HT4 := Lib.hid (ht.symm.box pArC rArC (.cells #[.int .i64 ta, .int .u64 tb] 32))
             have HO4 : Hid ((v4.alloc (.cells #[.int .i64 ta, .int .u64 tb] 32)).heap[b9]? = some (.cells #[.int .i64 1, .int .i64 hi, .int .u64 (hk : Int)] 34 (0, 0))) := Lib.hid (blk_old ((hx b9 (.inl (.inr rfl))).trans HO2.out) _)
             have HA4 : Hid ((v4.alloc (.cells #[.int .i64 ta, .int .u64 tb] 32)).heap[b11]? = some (.cells #[.int .i64 ta, .int .u64 tb] 32 (0, 0))) := Lib.hid (blk_old ((hx b11 (.inr rfl)).trans HA2.out) _)
             have HB4 : Hid ((v4.alloc (.cells #[.int .i64 ta, .int .u64 tb] 32)).heap[v4.heap.size]? = some (.cells #[.int .i64 ta, .int .u64 tb] 32 (0, 0))) := Lib.hid (heap_alloc_new v4 _)
             clear ht hx))
        obtain ⟨b13, hb13⟩ : ∃ b, b = v4.heap.size := ⟨_, rfl⟩
        rw [← hb13] at HT4 HB4 ⊢
        clear hb13 HT2 HO2 HA2
        generalize (v4.alloc (.cells #[.int .i64 ta, .int .u64 tb] 32)) = v5 at *
        have x10 : v5.cell? ⟨b11, 0, none⟩ = some (.int .i64 ta) := blk_cell HA4.out 0
        have x11 : v5.cell? ⟨b11, 1, none⟩ = some (.int .u64 tb) := blk_cell HA4.out 1
        have x20 : v5.cell? ⟨b13, 0, none⟩ = some (.int .i64 ta) := blk_cell HB4.out 0
        have x21 : v5.cell? ⟨b13, 1, none⟩ = some (.int .u64 tb) := blk_cell HB4.out 1
        have y1 : v5.cell? ⟨b9, 1, none⟩ = some (.int .i64 hi) := blk_cell HO4.out 1
        have y2 : v5.cell? ⟨b9, 2, none⟩ = some (.int .u64 (hk : Int)) := blk_cell HO4.out 2
        go_wp2_with (first
          | (go_at_call 16
             refine (same_m HT4.out HOK.out.1 HOK.out.2.1 hi hk).mono ?_
             rintro e vz ⟨rfl, hb⟩
             have HTz := Lib.hid ((HT4.out.step pArC rArC hb).less (Y := fun _ => False) fun _ h => h.elim)
             clear hb))
        go_roundw
        case rel => exact ⟨k + 1, p, q, s.tk, by omega, rfl, rfl, by go_num, ⟨HOK.out.1, HOK.out.2.2.1, by have := HOK.out.2.2.2; omega⟩, HTz.out⟩
        case measure => simp [intOf]; omega
      by_cases c2 : κ = 2
      · subst c2
        have e0 : (0 : Int) = 0 := rfl
        clear e0
        have HOK : Hid ((s.fr hi hk).Ok ∧ (s.fr hi hk).has.length ≤ 65536 ∧ (s.fr hi hk).has.length = n ∧ (s.fr hi hk).serial ≤ k + 1) := Lib.hid ⟨Ar.ok_fr HS.out.1 hi hk, by rw [Ar.fr_len]; have := HS.out.2.1; omega, by rw [Ar.fr_len]; exact HS.out.2.1, by rw [Ar.fr_serial]; have := HS.out.2.2; omega⟩
        go_upto_region 19 with fail
        have HTV := HT1
        have HOV := HO1
        clear HT1 HO1
        rename_i Kc hKc
        refine wp_region_invG (fun a0 l a W => l.size = 10 ∧ a0.tmps.size = 146 ∧ Two PA RA w (fun k => False ∨ k = b9) W p q (Ar.frIf (l.getD 3 false) s (hi) hk) (Ar.frIf (l.getD 7 false) s (hi) hk) ∧ W.heap[b9]? = some (.cells #[.int .i64 2, .int .i64 hi, .int .u64 (hk : Int)] 34 (0, 0)) ∧ FrU a0 ([(0, 89, .pointer (some ⟨p, 0, none⟩)), (1, 90, .pointer (some ⟨b9, 1, none⟩)), (2, 91, .agg #[.int .i64 hi, .int .u64 (hk : Int)]), (3, 92, .int .i64 (s.frE hi hk)), (4, 93, .pointer (some ⟨q, 0, none⟩)), (5, 94, .pointer (some ⟨b9, 1, none⟩)), (6, 95, .agg #[.int .i64 hi, .int .u64 (hk : Int)]), (7, 96, .int .i64 (s.frE hi hk)), (8, 97, .bool true), (9, 10, .bool true)] : List (Nat × Nat × Value)) l a) ?_ ?_ ?_ ?_ ?_ ?_
        · kernel_rfl
        · exact fun _ _ _ h => h.1
        · kernel_rfl
        · exact ⟨by simp, rfl, by rw [getD_none, getD_none]; exact HTV.out.step pArC rArC (Below.refl _ _).drew, HOV.out, FrU.start _ _ _⟩
        · intro l a W i5 o hI ho hn hdep
          obtain ⟨hl, hsz, hT, hO, hF⟩ := hI
          match i5, ho, hn with
          | 0, ho, hn =>
            simp only [List.getElem?_toArray, List.getElem?_cons_zero, Option.some.injEq] at ho
            subst ho
            refine ⟨rfl, ?_⟩
            have h5 : a.tmps[5]?.getD undef = .pointer (some ⟨p, 0, none⟩) := hF.base 5 (by simp) rfl
            exact owp_value (.pointer (some ⟨p, 0, none⟩)) (w' := W) (by clear hdep; go_simp) ⟨by simp [hl], hsz, by rw [frIf_ne (by decide), frIf_ne (by decide)]; exact hT, hO, hF.put 0 89 _ (by rw [hsz]; decide) (by simp) (by simp) (by simp)⟩
          | 1, ho, hn =>
            simp only [List.getElem?_toArray, List.getElem?_cons_zero, List.getElem?_cons_succ, Option.some.injEq] at ho
            subst ho
            refine ⟨rfl, ?_⟩
            have h9 : a.tmps[9]?.getD undef = .pointer (some ⟨b9, 0, none⟩) := hF.base 9 (by simp) rfl
            exact owp_value (.pointer (some ⟨b9, 1, none⟩)) (w' := W) (by clear hdep; go_simp) ⟨by simp [hl], hsz, by rw [frIf_ne (by decide), frIf_ne (by decide)]; exact hT, hO, hF.put 1 90 _ (by rw [hsz]; decide) (by simp) (by simp) (by simp)⟩
          | 2, ho, hn =>
            simp only [List.getElem?_toArray, List.getElem?_cons_zero, List.getElem?_cons_succ, Option.some.injEq] at ho
            subst ho
            refine ⟨rfl, ?_⟩
            have h90 := hF.slot (i := 1) (s := 90) (v := .pointer (some ⟨b9, 1, none⟩)) (by simp) (hdep ⟨1, .data⟩ (by simp) rfl)
            have hld := run_loadVar_mid W b9 1 32 [.int .i64 hi, .int .u64 (hk : Int)] _ (rng2 hO 1 rfl rfl) Try.underlying32 rfl (by kernel_rfl)
            refine owp_value (.agg #[.int .i64 hi, .int .u64 (hk : Int)]) (w' := W) ?_ ⟨by simp [hl], hsz, by rw [frIf_ne (by decide), frIf_ne (by decide)]; exact hT, hO, hF.put 2 91 _ (by rw [hsz]; decide) (by simp) (by simp) (by simp)⟩
            clear hdep
            simp only [execOp, Act.eval, Array.getD_eq_getD_getElem?, h90, Instr.loadAt, Instr.sureAddr, Sem.run_bind, Sem.run_pure, Result.andThen_ok, hld]
            all_goals rfl
          | 3, ho, hn =>
            simp only [List.getElem?_toArray, List.getElem?_cons_zero, List.getElem?_cons_succ, Option.some.injEq] at ho
            subst ho
            refine ⟨rfl, ?_⟩
            have h89 := hF.slot (i := 0) (s := 89) (v := .pointer (some ⟨p, 0, none⟩)) (by simp) (hdep ⟨0, .data⟩ (by simp) rfl)
            have h91 := hF.slot (i := 2) (s := 91) (v := .agg #[.int .i64 hi, .int .u64 (hk : Int)]) (by simp) (hdep ⟨2, .data⟩ (by simp) rfl)
            rw [getD_no hn] at hT
            have hTs : Two PA RA w (fun k => False ∨ k = b9) W p q s (Ar.frIf (l.getD 7 false) s (hi) hk) := hT
            refine owp_call (fn := 11) (args := #[.pointer (some ⟨p, 0, none⟩), .agg #[.int .i64 hi, .int .u64 (hk : Int)]]) (by clear hdep; go_simp) ?_
            refine (hTs.free pArC rArC HSO.out HSN.out (hi) hk).mono ?_
            rintro e w' ⟨rfl, ht, hx⟩
            exact ⟨_, rfl, by simp [hl], hsz, by rw [frIf_at hn, frIf_ne (show 7 ≠ 3 by decide)]; exact ht, (hx b9 (.inr rfl)).trans hO, hF.put 3 92 _ (by rw [hsz]; decide) (by simp) (by simp) (by simp)⟩
          | 4, ho, hn =>
            simp only [List.getElem?_toArray, List.getElem?_cons_zero, List.getElem?_cons_succ, Option.some.injEq] at ho
            subst ho
            refine ⟨rfl, ?_⟩
            have h7 : a.tmps[7]?.getD undef = .pointer (some ⟨q, 0, none⟩) := hF.base 7 (by simp) rfl
            exact owp_value (.pointer (some ⟨q, 0, none⟩)) (w' := W) (by clear hdep; go_simp) ⟨by simp [hl], hsz, by rw [frIf_ne (by decide), frIf_ne (by decide)]; exact hT, hO, hF.put 4 93 _ (by rw [hsz]; decide) (by simp) (by simp) (by simp)⟩
          | 5, ho, hn =>
            simp only [List.getElem?_toArray, List.getElem?_cons_zero, List.getElem?_cons_succ, Option.some.injEq] at ho
            subst ho
            refine ⟨rfl, ?_⟩
            have h9 : a.tmps[9]?.getD undef = .pointer (some ⟨b9, 0, none⟩) := hF.base 9 (by simp) rfl
            exact owp_value (.pointer (some ⟨b9, 1, none⟩)) (w' := W) (by clear hdep; go_simp) ⟨by simp [hl], hsz, by rw [frIf_ne (by decide), frIf_ne (by decide)]; exact hT, hO, hF.put 5 94 _ (by rw [hsz]; decide) (by simp) (by simp) (by simp)⟩
          | 6, ho, hn =>
            simp only [List.getElem?_toArray, List.getElem?_cons_zero, List.getElem?_cons_succ, Option.some.injEq] at ho
            subst ho
            refine ⟨rfl, ?_⟩
            have h94 := hF.slot (i := 5) (s := 94) (v := .pointer (some ⟨b9, 1, none⟩)) (by simp) (hdep ⟨5, .data⟩ (by simp) rfl)
            have hld := run_loadVar_mid W b9 1 32 [.int .i64 hi, .int .u64 (hk : Int)] _ (rng2 hO 1 rfl rfl) Try.underlying32 rfl (by kernel_rfl)
            refine owp_value (.agg #[.int .i64 hi, .int .u64 (hk : Int)]) (w' := W) ?_ ⟨by simp [hl], hsz, by rw [frIf_ne (by decide), frIf_ne (by decide)]; exact hT, hO, hF.put 6 95 _ (by rw [hsz]; decide) (by simp) (by simp) (by simp)⟩
            clear hdep
            simp only [execOp, Act.eval, Array.getD_eq_getD_getElem?, h94, Instr.loadAt, Instr.sureAddr, Sem.run_bind, Sem.run_pure, Result.andThen_ok, hld]
            all_goals rfl
          | 7, ho, hn =>
            simp only [List.getElem?_toArray, List.getElem?_cons_zero, List.getElem?_cons_succ, Option.some.injEq] at ho
            subst ho
            refine ⟨rfl, ?_⟩
            have h93 := hF.slot (i := 4) (s := 93) (v := .pointer (some ⟨q, 0, none⟩)) (by simp) (hdep ⟨4, .data⟩ (by simp) rfl)
            have h95 := hF.slot (i := 6) (s := 95) (v := .agg #[.int .i64 hi, .int .u64 (hk : Int)]) (by simp) (hdep ⟨6, .data⟩ (by simp) rfl)
            rw [getD_no hn] at hT
            have hTs : Two PA RA w (fun k => False ∨ k = b9) W p q (Ar.frIf (l.getD 3 false) s (hi) hk) s := hT
            refine owp_call (fn := 12) (args := #[.pointer (some ⟨q, 0, none⟩), .agg #[.int .i64 hi, .int .u64 (hk : Int)]]) (by clear hdep; go_simp) ?_
            refine (hTs.symm.free rArC pArC HSO.out HSN.out (hi) hk).mono ?_
            rintro e w' ⟨rfl, ht, hx⟩
            exact ⟨_, rfl, by simp [hl], hsz, by rw [frIf_at hn, frIf_ne (show 3 ≠ 7 by decide)]; exact ht.symm, (hx b9 (.inr rfl)).trans hO, hF.put 7 96 _ (by rw [hsz]; decide) (by simp) (by simp) (by simp)⟩
          | 8, ho, hn =>
            simp only [List.getElem?_toArray, List.getElem?_cons_zero, List.getElem?_cons_succ, Option.some.injEq] at ho
            subst ho
            refine ⟨rfl, ?_⟩
            have h92 := hF.slot (i := 3) (s := 92) (v := .int .i64 (s.frE hi hk)) (by simp) (hdep ⟨3, .data⟩ (by simp) rfl)
            have h96 := hF.slot (i := 7) (s := 96) (v := .int .i64 (s.frE hi hk)) (by simp) (hdep ⟨7, .data⟩ (by simp) rfl)
            exact owp_value (.bool true) (w' := W) (by clear hdep; go_simp) ⟨by simp [hl], hsz, by rw [frIf_ne (by decide), frIf_ne (by decide)]; exact hT, hO, hF.put 8 97 _ (by rw [hsz]; decide) (by simp) (by simp) (by simp)⟩
          | 9, ho, hn =>
            simp only [List.getElem?_toArray, List.getElem?_cons_zero, List.getElem?_cons_succ, Option.some.injEq] at ho
            subst ho
            refine ⟨rfl, ?_⟩
            have h97 := hF.slot (i := 8) (s := 97) (v := .bool true) (by simp) (hdep ⟨8, .data⟩ (by simp) rfl)
            exact owp_value (.bool true) (w' := W) (by clear hdep; go_simp) ⟨by simp [hl], hsz, by rw [frIf_ne (by decide), frIf_ne (by decide)]; exact hT, hO, hF.put 9 10 _ (by rw [hsz]; decide) (by simp) (by simp) (by simp)⟩
          | i5 + 10, ho, hn => simp at ho
        · intro l a W1 hI hall
          obtain ⟨hl, hsz, hT, hO, hF⟩ := hI
          have hall : ∀ i, i < 10 → l.getD i false = true := hall
          have ha := hF.all (by simp only [List.mem_cons, List.not_mem_nil, or_false]; rintro x (rfl | rfl | rfl | rfl | rfl | rfl | rfl | rfl | rfl | rfl) <;> exact hall _ (by dsimp only; decide)) (by simp) (by rw [hsz]; simp)
          subst ha
          rw [hall 3 (by decide), hall 7 (by decide)] at hT
          have HTV2 := Lib.hid hT
          have HOV2 := Lib.hid hO
          clear hF hall hl hsz hT hO HTV HOV
          refine hKc _ _ ?_
          simp only [setAll, List.setIfInBounds_toArray, List.set_cons_succ, List.set_cons_zero]
          have y1 : W1.cell? ⟨b9, 1, none⟩ = some (.int .i64 hi) := blk_cell HOV2.out 1
          have y2 : W1.cell? ⟨b9, 2, none⟩ = some (.int .u64 (hk : Int)) := blk_cell HOV2.out 2
          go_wp2_with (first
            | (go_at_call 16
               refine (same_m HTV2.out HOK.out.1 HOK.out.2.1 hi hk).mono ?_
               rintro e vz ⟨rfl, hb⟩
               have HTz := Lib.hid ((HTV2.out.step pArC rArC hb).less (Y := fun _ => False) fun _ h => h.elim)
               clear hb))
          go_roundw
          case rel => exact ⟨k + 1, p, q, s.fr hi hk, by omega, rfl, rfl, by go_num, ⟨HOK.out.1, HOK.out.2.2.1, by have := HOK.out.2.2.2; omega⟩, HTz.out⟩
          case measure => simp [intOf]; omega
      by_cases c3 : κ = 3
      · subst c3
        have e0 : (0 : Int) = 0 := rfl
        clear e0
        obtain ⟨hx, hy, hhat⟩ := s.hat_eq hi
        have HH := Lib.hid hhat
        clear hhat
        have HOK : Hid ((s.fr hx hy).Ok ∧ (s.fr hx hy).has.length ≤ 65536 ∧ (s.fr hx hy).has.length = n ∧ (s.fr hx hy).serial ≤ k + 1) := Lib.hid ⟨Ar.ok_fr HS.out.1 hx hy, by rw [Ar.fr_len]; have := HS.out.2.1; omega, by rw [Ar.fr_len]; exact HS.out.2.1, by rw [Ar.fr_serial]; have := HS.out.2.2; omega⟩
        have y1 : v1.cell? ⟨b9, 1, none⟩ = some (.int .i64 hi) := blk_cell HO1.out 1
        go_upto_region 22 with (first
          | (go_at_call 13
             refine (at_m HT1.out HSN.out hi).mono ?_
             rintro e v2 ⟨rfl, hb⟩
             rw [HH.out]
             have HTV := Lib.hid ((HT1.out.step pArC rArC hb).box pArC rArC (.cells #[.int .i64 hx, .int .u64 (hy : Int)] 32))
             have HOA : Hid ((v2.alloc (.cells #[.int .i64 hx, .int .u64 (hy : Int)] 32)).heap[b9]? = some (.cells #[.int .i64 3, .int .i64 hi, .int .u64 (hk : Int)] 34 (0, 0))) := Lib.hid (blk_old ((hb.block _ (lt_heap HO1.out)).trans HO1.out) _)
             have HOB : Hid ((v2.alloc (.cells #[.int .i64 hx, .int .u64 (hy : Int)] 32)).heap[v2.heap.size]? = some (.cells #[.int .i64 hx, .int .u64 (hy : Int)] 32 (0, 0))) := Lib.hid (heap_alloc_new v2 _)
             clear hb))
        obtain ⟨b15, hb15⟩ : ∃ b, b = v2.heap.size := ⟨_, rfl⟩
        rw [← hb15] at HTV HOB ⊢
        have HOV := Lib.hid (And.intro HOA.out HOB.out)
        clear hb15 HT1 HO1 y1 HOA HOB
        generalize v2.alloc (.cells #[.int .i64 hx, .int .u64 (hy : Int)] 32) = v3 at *
        rename_i Kc hKc
        refine wp_region_invG (fun a0 l a W => l.size = 8 ∧ a0.tmps.size = 146 ∧ Two PA RA w (fun k => (False ∨ k = b9) ∨ k = b15) W p q (Ar.frIf (l.getD 2 false) s (hx) hy) (Ar.frIf (l.getD 5 false) s (hx) hy) ∧ (W.heap[b9]? = some (.cells #[.int .i64 3, .int .i64 hi, .int .u64 (hk : Int)] 34 (0, 0)) ∧ W.heap[b15]? = some (.cells #[.int .i64 hx, .int .u64 (hy : Int)] 32 (0, 0))) ∧ FrU a0 ([(0, 108, .pointer (some ⟨p, 0, none⟩)), (1, 109, .agg #[.int .i64 hx, .int .u64 (hy : Int)]), (2, 110, .int .i64 (s.frE hx hy)), (3, 111, .pointer (some ⟨q, 0, none⟩)), (4, 112, .agg #[.int .i64 hx, .int .u64 (hy : Int)]), (5, 113, .int .i64 (s.frE hx hy)), (6, 114, .bool true), (7, 10, .bool true)] : List (Nat × Nat × Value)) l a) ?_ ?_ ?_ ?_ ?_ ?_
        · kernel_rfl
        · exact fun _ _ _ h => h.1
        · kernel_rfl
        · exact ⟨by simp, rfl, by rw [getD_none, getD_none]; exact HTV.out.step pArC rArC (Below.refl _ _).drew, HOV.out, FrU.start _ _ _⟩
        · intro l a W i5 o hI ho hn hdep
          obtain ⟨hl, hsz, hT, hO, hF⟩ := hI
          match i5, ho, hn with
          | 0, ho, hn =>
            simp only [List.getElem?_toArray, List.getElem?_cons_zero, Option.some.injEq] at ho
            subst ho
            refine ⟨rfl, ?_⟩
            have h5 : a.tmps[5]?.getD undef = .pointer (some ⟨p, 0, none⟩) := hF.base 5 (by simp) rfl
            exact owp_value (.pointer (some ⟨p, 0, none⟩)) (w' := W) (by clear hdep; go_simp) ⟨by simp [hl], hsz, by rw [frIf_ne (by decide), frIf_ne (by decide)]; exact hT, hO, hF.put 0 108 _ (by rw [hsz]; decide) (by simp) (by simp) (by simp)⟩
          | 1, ho, hn =>
            simp only [List.getElem?_toArray, List.getElem?_cons_zero, List.getElem?_cons_succ, Option.some.injEq] at ho
            subst ho
            refine ⟨rfl, ?_⟩
            have h15 : a.tmps[15]?.getD undef = .pointer (some ⟨b15, 0, none⟩) := hF.base 15 (by simp) rfl
            have hld := run_loadVar_row W b15 32 32 #[.int .i64 hx, .int .u64 (hy : Int)] (0, 0) _ hO.2 Try.underlying32 rfl (by kernel_rfl)
            refine owp_value (.agg #[.int .i64 hx, .int .u64 (hy : Int)]) (w' := W) ?_ ⟨by simp [hl], hsz, by rw [frIf_ne (by decide), frIf_ne (by decide)]; exact hT, hO, hF.put 1 109 _ (by rw [hsz]; decide) (by simp) (by simp) (by simp)⟩
            clear hdep
            simp only [execOp, Act.eval, Array.getD_eq_getD_getElem?, h15, Instr.loadAt, Instr.sureAddr, Sem.run_bind, Sem.run_pure, Result.andThen_ok, hld]
            all_goals rfl
          | 2, ho, hn =>
            simp only [List.getElem?_toArray, List.getElem?_cons_zero, List.getElem?_cons_succ, Option.some.injEq] at ho
            subst ho
            refine ⟨rfl, ?_⟩
            have h108 := hF.slot (i := 0) (s := 108) (v := .pointer (some ⟨p, 0, none⟩)) (by simp) (hdep ⟨0, .data⟩ (by simp) rfl)
            have h109 := hF.slot (i := 1) (s := 109) (v := .agg #[.int .i64 hx, .int .u64 (hy : Int)]) (by simp) (hdep ⟨1, .data⟩ (by simp) rfl)
            rw [getD_no hn] at hT
            have hTs : Two PA RA w (fun k => (False ∨ k = b9) ∨ k = b15) W p q s (Ar.frIf (l.getD 5 false) s (hx) hy) := hT
            refine owp_call (fn := 11) (args := #[.pointer (some ⟨p, 0, none⟩), .agg #[.int .i64 hx, .int .u64 (hy : Int)]]) (by clear hdep; go_simp) ?_
            refine (hTs.free pArC rArC HSO.out HSN.out (hx) hy).mono ?_
            rintro e w' ⟨rfl, ht, hxx⟩
            exact ⟨_, rfl, by simp [hl], hsz, by rw [frIf_at hn, frIf_ne (show 5 ≠ 2 by decide)]; exact ht, ⟨(hxx b9 (.inl (.inr rfl))).trans hO.1, (hxx b15 (.inr rfl)).trans hO.2⟩, hF.put 2 110 _ (by rw [hsz]; decide) (by simp) (by simp) (by simp)⟩
          | 3, ho, hn =>
            simp only [List.getElem?_toArray, List.getElem?_cons_zero, List.getElem?_cons_succ, Option.some.injEq] at ho
            subst ho
            refine ⟨rfl, ?_⟩
            have h7 : a.tmps[7]?.getD undef = .pointer (some ⟨q, 0, none⟩) := hF.base 7 (by simp) rfl
            exact owp_value (.pointer (some ⟨q, 0, none⟩)) (w' := W) (by clear hdep; go_simp) ⟨by simp [hl], hsz, by rw [frIf_ne (by decide), frIf_ne (by decide)]; exact hT, hO, hF.put 3 111 _ (by rw [hsz]; decide) (by simp) (by simp) (by simp)⟩
          | 4, ho, hn =>
            simp only [List.getElem?_toArray, List.getElem?_cons_zero, List.getElem?_cons_succ, Option.some.injEq] at ho
            subst ho
            refine ⟨rfl, ?_⟩
            have h15 : a.tmps[15]?.getD undef = .pointer (some ⟨b15, 0, none⟩) := hF.base 15 (by simp) rfl
            have hld := run_loadVar_row W b15 32 32 #[.int .i64 hx, .int .u64 (hy : Int)] (0, 0) _ hO.2 Try.underlying32 rfl (by kernel_rfl)
            refine owp_value (.agg #[.int .i64 hx, .int .u64 (hy : Int)]) (w' := W) ?_ ⟨by simp [hl], hsz, by rw [frIf_ne (by decide), frIf_ne (by decide)]; exact hT, hO, hF.put 4 112 _ (by rw [hsz]; decide) (by simp) (by simp) (by simp)⟩
            clear hdep
            simp only [execOp, Act.eval, Array.getD_eq_getD_getElem?, h15, Instr.loadAt, Instr.sureAddr, Sem.run_bind, Sem.run_pure, Result.andThen_ok, hld]
            all_goals rfl
          | 5, ho, hn =>
            simp only [List.getElem?_toArray, List.getElem?_cons_zero, List.getElem?_cons_succ, Option.some.injEq] at ho
            subst ho
            refine ⟨rfl, ?_⟩
            have h111 := hF.slot (i := 3) (s := 111) (v := .pointer (some ⟨q, 0, none⟩)) (by simp) (hdep ⟨3, .data⟩ (by simp) rfl)
            have h112 := hF.slot (i := 4) (s := 112) (v := .agg #[.int .i64 hx, .int .u64 (hy : Int)]) (by simp) (hdep ⟨4, .data⟩ (by simp) rfl)
            rw [getD_no hn] at hT
            have hTs : Two PA RA w (fun k => (False ∨ k = b9) ∨ k = b15) W p q (Ar.frIf (l.getD 2 false) s (hx) hy) s := hT
            refine owp_call (fn := 12) (args := #[.pointer (some ⟨q, 0, none⟩), .agg #[.int .i64 hx, .int .u64 (hy : Int)]]) (by clear hdep; go_simp) ?_
            refine (hTs.symm.free rArC pArC HSO.out HSN.out (hx) hy).mono ?_
            rintro e w' ⟨rfl, ht, hxx⟩
            exact ⟨_, rfl, by simp [hl], hsz, by rw [frIf_at hn, frIf_ne (show 2 ≠ 5 by decide)]; exact ht.symm, ⟨(hxx b9 (.inl (.inr rfl))).trans hO.1, (hxx b15 (.inr rfl)).trans hO.2⟩, hF.put 5 113 _ (by rw [hsz]; decide) (by simp) (by simp) (by simp)⟩
          | 6, ho, hn =>
            simp only [List.getElem?_toArray, List.getElem?_cons_zero, List.getElem?_cons_succ, Option.some.injEq] at ho
            subst ho
            refine ⟨rfl, ?_⟩
            have h110 := hF.slot (i := 2) (s := 110) (v := .int .i64 (s.frE hx hy)) (by simp) (hdep ⟨2, .data⟩ (by simp) rfl)
            have h113 := hF.slot (i := 5) (s := 113) (v := .int .i64 (s.frE hx hy)) (by simp) (hdep ⟨5, .data⟩ (by simp) rfl)
            exact owp_value (.bool true) (w' := W) (by clear hdep; go_simp) ⟨by simp [hl], hsz, by rw [frIf_ne (by decide), frIf_ne (by decide)]; exact hT, hO, hF.put 6 114 _ (by rw [hsz]; decide) (by simp) (by simp) (by simp)⟩
          | 7, ho, hn =>
            simp only [List.getElem?_toArray, List.getElem?_cons_zero, List.getElem?_cons_succ, Option.some.injEq] at ho
            subst ho
            refine ⟨rfl, ?_⟩
            have h114 := hF.slot (i := 6) (s := 114) (v := .bool true) (by simp) (hdep ⟨6, .data⟩ (by simp) rfl)
            exact owp_value (.bool true) (w' := W) (by clear hdep; go_simp) ⟨by simp [hl], hsz, by rw [frIf_ne (by decide), frIf_ne (by decide)]; exact hT, hO, hF.put 7 10 _ (by rw [hsz]; decide) (by simp) (by simp) (by simp)⟩
          | i5 + 8, ho, hn => simp at ho
        · intro l a W1 hI hall
          obtain ⟨hl, hsz, hT, hO, hF⟩ := hI
          have hall : ∀ i, i < 8 → l.getD i false = true := hall
          have ha := hF.all (by simp only [List.mem_cons, List.not_mem_nil, or_false]; rintro x (rfl | rfl | rfl | rfl | rfl | rfl | rfl | rfl) <;> exact hall _ (by dsimp only; decide)) (by simp) (by rw [hsz]; simp)
          subst ha
          rw [hall 2 (by decide), hall 5 (by decide)] at hT
          have HTV2 := Lib.hid hT
          have HOV2 := Lib.hid hO
          clear hF hall hl hsz hT hO HTV HOV
          refine hKc _ _ ?_
          simp only [setAll, List.setIfInBounds_toArray, List.set_cons_succ, List.set_cons_zero]
          have HOV3 := Lib.hid HOV2.out.1
          have y1 : W1.cell? ⟨b9, 1, none⟩ = some (.int .i64 hi) := blk_cell HOV3.out 1
          have y2 : W1.cell? ⟨b9, 2, none⟩ = some (.int .u64 (hk : Int)) := blk_cell HOV3.out 2
          go_wp2_with (first
            | (go_at_call 16
               refine (same_m HTV2.out HOK.out.1 HOK.out.2.1 hi hk).mono ?_
               rintro e vz ⟨rfl, hb⟩
               have HTz := Lib.hid ((HTV2.out.step pArC rArC hb).less (Y := fun _ => False) fun _ h => h.elim)
               clear hb))
          go_roundw
          case rel => exact ⟨k + 1, p, q, s.fr hx hy, by omega, rfl, rfl, by go_num, ⟨HOK.out.1, HOK.out.2.2.1, by have := HOK.out.2.2.2; omega⟩, HTz.out⟩
          case measure => simp [intOf]; omega
      by_cases c4 : κ = 4
      · subst c4
        have e0 : (0 : Int) = 0 := rfl
        clear e0
        have HOK : Hid ((s).Ok ∧ (s).has.length ≤ 65536 ∧ (s).has.length = n ∧ (s).serial ≤ k + 1) := Lib.hid ⟨HS.out.1, by rw [show s.has.length = s.has.length from rfl]; have := HS.out.2.1; omega, by rw [show s.has.length = s.has.length from rfl]; exact HS.out.2.1, by have := HS.out.2.2; omega⟩
        go_upto_region 25 with (first
          | (go_at_call 14
             refine (HT1.out.tri pArC rArC (fun h => pcopy_new HSN.out h)).mono ?_
             rintro e v2 ⟨b, rfl, ht, hb⟩
             have HT2 := Lib.hid ht
             have HO2 : Hid (v2.heap[b9]? = some (.cells #[.int .i64 4, .int .i64 hi, .int .u64 (hk : Int)] 34 (0, 0))) := Lib.hid ((hb.block _ (lt_heap HO1.out)).trans HO1.out)
             clear ht hb))
        clear HT1 HO1
        go_upto_region 26 with (first
          | (go_at_call 9
             refine (HT2.out.take pArC rArC HS.out.1 HSN.out HSS.out).mono ?_
             rintro e v3 ⟨rfl, ht, hx⟩
             have HT3 := Lib.hid ht.swap.two
             have HO3 : Hid (v3.heap[b9]? = some (.cells #[.int .i64 4, .int .i64 hi, .int .u64 (hk : Int)] 34 (0, 0))) := Lib.hid ((hx b9 (.inr rfl)).trans HO2.out)
             clear ht hx))
        clear HT2 HO2
        go_upto_region 31 with (first
          | (go_at_call 15
             refine (HT3.out.copyR pArC rArC HS.out.1 HSN.out).mono ?_
             rintro e v4 ⟨q2, rfl, ht, hb⟩
             have HT4 := Lib.hid ht
             have HO4 : Hid (v4.heap[b9]? = some (.cells #[.int .i64 4, .int .i64 hi, .int .u64 (hk : Int)] 34 (0, 0))) := Lib.hid ((hb.block _ (lt_heap HO3.out)).trans HO3.out)
             clear ht hb))
        clear HT3 HO3
        have y1 : v4.cell? ⟨b9, 1, none⟩ = some (.int .i64 hi) := blk_cell HO4.out 1
        have y2 : v4.cell? ⟨b9, 2, none⟩ = some (.int .u64 (hk : Int)) := blk_cell HO4.out 2
        go_wp2_with (first
          | (go_at_call 16
             refine (same_m HT4.out HOK.out.1 HOK.out.2.1 hi hk).mono ?_
             rintro e vz ⟨rfl, hb⟩
             have HTz := Lib.hid ((HT4.out.step pArC rArC hb).less (Y := fun _ => False) fun _ h => h.elim)
             clear hb))
        go_roundw
        case rel => exact ⟨k + 1, b, q2, s, by omega, rfl, rfl, by go_num, ⟨HOK.out.1, HOK.out.2.2.1, by have := HOK.out.2.2.2; omega⟩, HTz.out⟩
        case measure => simp [intOf]; omega
      by_cases c5 : κ = 5
      · subst c5
        have e0 : (0 : Int) = 0 := rfl
        clear e0
        have HOK : Hid ((s).Ok ∧ (s).has.length ≤ 65536 ∧ (s).has.length = n ∧ (s).serial ≤ k + 1) := Lib.hid ⟨HS.out.1, by rw [show s.has.length = s.has.length from rfl]; have := HS.out.2.1; omega, by rw [show s.has.length = s.has.length from rfl]; exact HS.out.2.1, by have := HS.out.2.2; omega⟩
        go_upto_region 29 with (first
          | (go_at_call 14
             refine (HT1.out.tri pArC rArC (fun h => pcopy_new HSN.out h)).mono ?_
             rintro e v2 ⟨b, rfl, ht, hb⟩
             have HT2 := Lib.hid ht.swap
             have HO2 : Hid (v2.heap[b9]? = some (.cells #[.int .i64 5, .int .i64 hi, .int .u64 (hk : Int)] 34 (0, 0))) := Lib.hid ((hb.block _ (lt_heap HO1.out)).trans HO1.out)
             clear ht hb))
        clear HT1 HO1
        go_upto_region 30 with (first
          | (go_at_call 9
             refine (HT2.out.take pArC rArC HS.out.1 HSN.out HSS.out).mono ?_
             rintro e v3 ⟨rfl, ht, hx⟩
             have HT3 := Lib.hid ht
             have HO3 : Hid (v3.heap[b9]? = some (.cells #[.int .i64 5, .int .i64 hi, .int .u64 (hk : Int)] 34 (0, 0))) := Lib.hid ((hx b9 (.inr rfl)).trans HO2.out)
             clear ht hx))
        clear HT2 HO2
        have y1 : v3.cell? ⟨b9, 1, none⟩ = some (.int .i64 hi) := blk_cell HO3.out 1
        have y2 : v3.cell? ⟨b9, 2, none⟩ = some (.int .u64 (hk : Int)) := blk_cell HO3.out 2
        go_upto_region 31 with (first
          | (go_at_call 11
             refine (HT3.out.free pArC rArC (Ar.ok_tk HS.out.1) (by rw [Ar.tk_len]; exact HSN.out) hi hk).mono ?_
             rintro e v4 ⟨rfl, ht, hx⟩
             have HT4 := Lib.hid ht.swap.two
             have HO4 : Hid (v4.heap[b9]? = some (.cells #[.int .i64 5, .int .i64 hi, .int .u64 (hk : Int)] 34 (0, 0))) := Lib.hid ((hx b9 (.inr rfl)).trans HO3.out)
             clear ht hx))
        clear HT3 HO3 y1 y2
        have y1 : v4.cell? ⟨b9, 1, none⟩ = some (.int .i64 hi) := blk_cell HO4.out 1
        have y2 : v4.cell? ⟨b9, 2, none⟩ = some (.int .u64 (hk : Int)) := blk_cell HO4.out 2
        go_wp2_with (first
          | (go_at_call 16
             refine (same_m HT4.out HOK.out.1 HOK.out.2.1 hi hk).mono ?_
             rintro e vz ⟨rfl, hb⟩
             have HTz := Lib.hid ((HT4.out.step pArC rArC hb).less (Y := fun _ => False) fun _ h => h.elim)
             clear hb))
        go_roundw
        case rel => exact ⟨k + 1, p, q, s, by omega, rfl, rfl, by go_num, ⟨HOK.out.1, HOK.out.2.2.1, by have := HOK.out.2.2.2; omega⟩, HTz.out⟩
        case measure => simp [intOf]; omega
      have c1 : (κ == 1) = false := by simpa using c1
      have c2 : (κ == 2) = false := by simpa using c2
      have c3 : (κ == 3) = false := by simpa using c3
      have c4 : (κ == 4) = false := by simpa using c4
      have c5 : (κ == 5) = false := by simpa using c5
      have HOK : Hid ((s).Ok ∧ (s).has.length ≤ 65536 ∧ (s).has.length = n ∧ (s).serial ≤ k + 1) := Lib.hid ⟨HS.out.1, by rw [show s.has.length = s.has.length from rfl]; have := HS.out.2.1; omega, by rw [show s.has.length = s.has.length from rfl]; exact HS.out.2.1, by have := HS.out.2.2; omega⟩
      go_upto_region 31 with fail
      have y1 : v1.cell? ⟨b9, 1, none⟩ = some (.int .i64 hi) := blk_cell HO1.out 1
      have y2 : v1.cell? ⟨b9, 2, none⟩ = some (.int .u64 (hk : Int)) := blk_cell HO1.out 2
      go_wp2_with (first
        | (go_at_call 16
           refine (same_m HT1.out HOK.out.1 HOK.out.2.1 hi hk).mono ?_
           rintro e vz ⟨rfl, hb⟩
           have HTz := Lib.hid ((HT1.out.step pArC rArC hb).less (Y := fun _ => False) fun _ h => h.elim)
           clear hb))
      go_roundw
      case rel => exact ⟨k + 1, p, q, s, by omega, rfl, rfl, by go_num, ⟨HOK.out.1, HOK.out.2.2.1, by have := HOK.out.2.2.2; omega⟩, HTz.out⟩
      case measure => simp [intOf]; omega
    · obtain rfl : m = k := by omega
      go_wp2_with (first
        | (go_at_call 6
           refine (known_p wr).mono ?_
           rintro e uz ⟨rfl, hb⟩))
      go_ret
      exact ⟨rfl, HTr.out.below.trans (hb.mono HTr.out.below.size)⟩
end Go.Proofs.Ythljpfmonienlaa
