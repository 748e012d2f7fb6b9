import Derived.Test.YthjghofjdcepmaaGm29
/- Stage 14: tables gone over, told by cells alone. -/
namespace Go.Proofs.Ythjghofjdcepmaa
set_option maxRecDepth 100000
open Go.RowKit Go.Shelf
attribute [local go_sem] Oper.semAt_some
theorem PTY.keepC {w w' : World} {p g n c : Nat} {e en mk : Int} {f : Nat → Value} {F R : Nat → Prop} (h : PTY w p g n c e en mk f F) (hk : KeptC R w w') (hd : ∀ k, F k → ¬ R k) : PTY w' p g n c e en mk f F := by
  have hp := h.pos
  refine ⟨hk.2 p _ _ _ h.blk (hd p h.mp), h.row.block ?_, h.mp, h.mg, fun k hF => Nat.lt_of_lt_of_le (h.old k hF) hk.1, h.may⟩
  exact hk.same (a := ⟨g, 0, none⟩) (h.cell (k := 0) (by omega)) (hd g h.mg)
set_option maxHeartbeats 2000000 in
theorem all_itQ {w0 : World} {p g c : Nat} {e : Int} {s : Tb} {F R : Nat → Prop} (hx : PTX w0 p g c e s F) {b0 : Nat} (hRF : ∀ k, F k → ¬ R k) (hR0 : ¬ R b0) (hc : w0.cell? ⟨b0, 0, none⟩ = some (.pointer (some ⟨p, 0, none⟩))) :
    SeqQ Fence.wide 12 Try.prog 72 #[.pointer (some ⟨b0, 0, none⟩)] tEnc (KeptC R) s.all w0 := fun l J Jx W hW hJ hJx hY hJ0 => by
  have cap := PTY.cap hx
  have cap9 := PTY.cap9 hx
  have htop := (PTY.pos hx).2
  have HC : Hid (∀ V, KeptC R w0 V → V.cell? ⟨b0, 0, none⟩ = some (.pointer (some ⟨p, 0, none⟩))) := Lib.hid fun V hV => hV.cell hc hR0
  have HX : Hid (∀ V, KeptC R w0 V → PTX V p g c e s F) := Lib.hid fun V hV => PTY.keepC hx hV hRF
  have HSY : Hid (∀ k, s.ful k = true → s.allU (k + 1) = s.allU k ++ [(k, s.eh k, s.ew k)]) := Lib.hid fun k hf => by
    show s.allU k ++ (if s.ful k then [(k, s.eh k, s.ew k)] else []) = _
    rw [hf, if_pos rfl]
  have HSN : Hid (∀ k, s.ful k = false → s.allU (k + 1) = s.allU k) := Lib.hid fun k hf => by
    show s.allU k ++ (if s.ful k then [(k, s.eh k, s.ew k)] else []) = _
    rw [hf, if_neg Bool.false_ne_true, List.append_nil]
  have HPr : Hid (∀ k, k ≤ s.n → s.allU k <+: s.all) := Lib.hid fun k hk => Tb.allU_pre s hk
  have HLt : Hid (∀ k, k < s.n → s.ful k = true → s.allU k ++ [(k, s.eh k, s.ew k)] <+: s.all) := Lib.hid fun k hk hf => by
    have := HPr.out (k + 1) hk
    rwa [HSY.out k hf] at this
  have HYd := Lib.hid hY
  have HJ := Lib.hid hJ
  have HK0 : Hid (KeptC R w0 W) := Lib.hid (KeptC.of_below hW R)
  have HJ0 : Hid (J (s.allU 0) W) := Lib.hid hJ0
  obtain ⟨n, hn⟩ : ∃ n, n = s.n := ⟨_, rfl⟩
  have HN := Lib.hid hn
  rw [← hn] at cap htop HLt HPr
  have hnil : ∀ V : World, (binOp .eql 106 (.func (.yield l) #[] #[]) .nilFunc).run Try.prog V = .ok (.bool false) V := fun _ => by kernel_rfl
  clear hY hJ hW hJ0 hJx hx hc hRF hR0 hn
  refine callsIn_of_wp Try.func72 rfl trivial ?_ rfl
  simp only [Try.ntmps72, List.size_toArray, List.length_cons, List.length_nil, Nat.reduceAdd, Nat.reduceSub, Array.replicate_succ, Array.replicate_zero, List.push_toArray, List.append_toArray, List.nil_append, List.cons_append]
  have x0 := HC.out W HK0.out
  have HMd := Lib.hid (tmade_yes (blk_cell (PTY.blk (HX.out W HK0.out)) 0) (PTY.pos (HX.out W HK0.out)).1)
  gi_wp2_with (
    refine ⟨trivial, ?_⟩
    gi_at_call 60
    refine (callsIn_wide.2 HMd.out).mono ?_
    rintro e W1 ⟨rfl, hb⟩
    have HK1 := Lib.hid (keptC_t HK0.out (KeptC.of_below hb R))
    have HJ1 := Lib.hid (HJ.out _ _ _ none HJ0.out (grown_below hb) (fun r e => nomatch e))
    have x1 := HC.out W1 HK1.out
    have x2 : W1.cell? ⟨p, 0, none⟩ = some (.slice (some ⟨g, 0, none⟩) n c) := by rw [HN.out]; exact blk_cell (PTY.blk (HX.out W1 HK1.out)) 0
    clear hb x0)
  clear x1 x2 HJ0 HK0 HMd hnil
  gi_loopw [18] (fun i wr => ∃ k : Nat, k ≤ n ∧ i = .int .i64 (k : Int) ∧ J (s.allU k) wr ∧ KeptC R w0 wr) (fun i _ => n - (intOf i).toNat)
  case atStart => exact ⟨0, Nat.zero_le _, rfl, HJ1.out, HK1.out⟩
  case round =>
    obtain ⟨k, hk, rfl, hJs, hkw⟩ := hrel
    have HJs := Lib.hid hJs
    have HKw := Lib.hid hkw
    clear hJs hkw
    have zw : IntKind.i64.wrap ((k : Int) + 1) = (k : Int) + 1 := by rw [IntKind.wrap_i64]; omega
    by_cases hlt : k < n
    · have hlt' : (k : Int) < (n : Int) := by omega
      have k0 : (0 : Int) ≤ (k : Int) := by omega
      have k2 : ((k : Int)).toNat = k := by omega
      have hkn : k < s.n := by rw [← HN.out]; exact hlt
      have g0 := (HX.out wr HKw.out).c0 hkn
      have g1 := (HX.out wr HKw.out).c1 hkn
      have g2 := (HX.out wr HKw.out).c2 hkn
      cases hf : s.ful k with
      | false =>
        have hst := stc_not hf
        have HT := Lib.hid (HSN.out k hf)
        obtain ⟨a, ha⟩ : ∃ a, a = stc s k := ⟨_, rfl⟩
        rw [← ha] at g0 hst
        have hne : ((a : Int) == 1) = false := by simp; omega
        clear hf ha hst hkn g1 g2
        gi_wp2
        refine ⟨fun _ h => (by cases h), ?_⟩
        gi_wp2
        go_roundw
        case rel => exact ⟨k + 1, by omega, by go_num, by rw [HT.out]; exact HJs.out, HKw.out⟩
        case measure => simp [intOf]; omega
      | true =>
        rw [stc_ful hf] at g0
        have g0 : wr.cell? ⟨g, k * 3, none⟩ = some (.int .u8 1) := g0
        have HT := Lib.hid (HSY.out k hf)
        have HLk := Lib.hid (HLt.out k hlt hf)
        obtain ⟨fn, tmps, assign, body, hy, hR2⟩ := HYd.out (s.allU k) (k, s.eh k, s.ew k) wr HJs.out HLk.out
        dsimp only [tEnc] at hy
        have HR2 := Lib.hid hR2
        clear hR2 hf hkn
        gi_wp2
        refine HR2.out.mono ?_
        rintro e W3 (⟨rfl, hJ3, hk3, _⟩ | ⟨rfl, hJx3, _⟩)
        · have HK3 := Lib.hid (keptC_t HKw.out hk3)
          have HJ3 := Lib.hid hJ3
          clear hJ3 hk3 hy g0 g1 g2
          gi_wp2
          go_roundw
          case rel => exact ⟨k + 1, by omega, by go_num, by rw [HT.out]; exact HJ3.out, HK3.out⟩
          case measure => simp [intOf]; omega
        · have HJ3 := Lib.hid hJx3
          clear hJx3 hy g0 g1 g2
          gi_wp2
          exact ⟨rfl, _, results_none rfl _ _ _, ⟨_, rfl⟩, .inr ⟨_, by rw [← HT.out]; exact HPr.out (k + 1) hlt, HJ3.out⟩⟩
    · have hlt' : ¬ (k : Int) < (n : Int) := by omega
      have HKN : Hid (k = s.n) := Lib.hid (by rw [← HN.out]; omega)
      gi_wp2
      refine ⟨rfl, _, results_none rfl _ _ _, ⟨_, rfl⟩, .inl ?_⟩
      have e : s.all = s.allU k := by
        rw [HKN.out]
        rfl
      rw [e]
      exact HJs.out
/-- One that is not there has nothing to tell. -/
theorem none_itQ {w0 : World} {R : Nat → Prop} {b0 : Nat} (hR0 : ¬ R b0) (hc : w0.cell? ⟨b0, 0, none⟩ = some (.pointer none)) :
    SeqQ Fence.wide 12 Try.prog 72 #[.pointer (some ⟨b0, 0, none⟩)] tEnc (KeptC R) [] w0 := fun l J Jx W hW hJ hJx hY hJ0 => by
  have x0 : W.cell? ⟨b0, 0, none⟩ = some (.pointer none) := (KeptC.of_below hW R).cell hc hR0
  have HMd := Lib.hid (tmade_un (w := W) (.inl rfl))
  have HJ := Lib.hid hJ
  have HJ0 := Lib.hid hJ0
  clear hY hJ hW hJ0 hJx hc hR0
  refine callsIn_of_wp Try.func72 rfl trivial ?_ rfl
  simp only [Try.ntmps72, List.size_toArray, List.length_cons, List.length_nil, Nat.reduceAdd, Nat.reduceSub, Array.replicate_succ, Array.replicate_zero, List.push_toArray, List.append_toArray, List.nil_append, List.cons_append]
  gi_wp2_with (
    refine ⟨trivial, ?_⟩
    gi_at_call 60
    refine (callsIn_wide.2 HMd.out).mono ?_
    rintro e W1 ⟨rfl, hb⟩
    have HJ1 := Lib.hid (HJ.out _ _ _ none HJ0.out (grown_below hb) (fun r e => nomatch e))
    clear hb x0)
  exact ⟨rfl, _, results_none rfl _ _ _, ⟨_, rfl⟩, .inl HJ1.out⟩
theorem tall_q {w : World} {pa : Option Addr} {p : Nat} {s : Tb} {F : Nat → Prop} (hp : pa = some ⟨p, 0, none⟩) (h : PT0 w p s F) : Calls Try.prog 59 #[.pointer pa] w fun e w' => ∃ lb, e = .returned (.func (.func 72) #[] lb) ∧ Below w.heap.size w w' ∧ ∀ R : Nat → Prop, (∀ k, F k → ¬ R k) → (∀ k, R k → k < w.heap.size) → SeqQ Fence.wide 12 Try.prog 72 lb tEnc (KeptC R) s.all w' := by
  subst hp
  refine (all_any w _).mono ?_
  rintro r w' ⟨rfl, rfl⟩
  have hb := below_alloc w (.cells #[.pointer (some ⟨p, 0, none⟩)] 49)
  obtain ⟨g, c, e, h⟩ := h
  refine ⟨_, rfl, hb, fun R hR hRo => all_itQ (PTY.step h hb) hR (fun q => ?_) (blk_cell (heap_alloc_new w _) 0)⟩
  have := hRo _ q
  omega
theorem tall_n (w : World) : Calls Try.prog 59 #[.pointer none] w fun e w' => ∃ lb, e = .returned (.func (.func 72) #[] lb) ∧ Below w.heap.size w w' ∧ ∀ R : Nat → Prop, (∀ k, R k → k < w.heap.size) → SeqQ Fence.wide 12 Try.prog 72 lb tEnc (KeptC R) [] w' := by
  refine (all_any w _).mono ?_
  rintro r w' ⟨rfl, rfl⟩
  have hb := below_alloc w (.cells #[.pointer none] 49)
  refine ⟨_, rfl, hb, fun R hRo => none_itQ (fun q => ?_) (blk_cell (heap_alloc_new w _) 0)⟩
  have := hRo _ q
  omega
end Go.Proofs.Ythjghofjdcepmaa
