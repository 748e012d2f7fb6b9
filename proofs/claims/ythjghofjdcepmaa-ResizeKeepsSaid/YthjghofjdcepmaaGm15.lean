import Derived.Test.YthjghofjdcepmaaGm14
/- Stage 13: the landed table: All. -/
namespace Go.Proofs.Ythjghofjdcepmaa
set_option maxRecDepth 100000
open Go.RowKit Go.Shelf
attribute [local go_sem] Oper.semAt_some
theorem all_any (w : World) (pa : Option Addr) : Calls Try.prog 59 #[.pointer pa] w fun e w' => e = .returned (.func (.func 72) #[] #[.pointer (some ⟨w.heap.size, 0, none⟩)]) ∧ w' = w.alloc (.cells #[.pointer pa] 49) := by
  go_enter Try.func59, Try.ntmps59
  go_wp2_with fail
  go_ret
  exact ⟨rfl, rfl⟩
theorem all_eg : ∀ args w, (callFunc 72 args).run Try.prog w = .ok (.enter 72 args) w := fun _ _ => by kernel_rfl
set_option maxHeartbeats 2000000 in
theorem all_it {w0 : World} {p g c : Nat} {e : Int} {s : Tb} {F R : Nat → Prop} (hx : PTX w0 p g c e s F) {b0 : Nat} (hRF : ∀ k, F k → ¬ R k) (hR0 : ¬ R b0) (hb0 : b0 < w0.heap.size) (hc : w0.cell? ⟨b0, 0, none⟩ = some (.pointer (some ⟨p, 0, none⟩))) :
    SeqStopsK Fence.wide 12 Try.prog 72 #[.pointer (some ⟨b0, 0, none⟩)] tEnc (Kept R) (fun xs => xs = s.all) (fun pre => pre <+: s.all) s.all.length w0 := fun l J Jx W hW hJ hJx hY hJ0 => by
  have cap := PTY.cap hx
  have cap9 := PTY.cap9 hx
  have htop := (PTY.pos hx).2
  have HC : Hid (∀ V, Kept R w0 V → V.cell? ⟨b0, 0, none⟩ = some (.pointer (some ⟨p, 0, none⟩))) := Lib.hid fun V hV => (hV.cell (p := ⟨b0, 0, none⟩) hb0 hR0).trans hc
  have HX : Hid (∀ V, Kept R w0 V → PTX V p g c e s F) := Lib.hid fun V hV => PTY.keep hx hV hRF
  have HSY : Hid (∀ k, s.ful k = true → s.allU (k + 1) = s.allU k ++ [(k, s.eh k, s.ew k)]) := Lib.hid fun k hf => by
    show s.allU k ++ (if s.ful k then [(k, s.eh k, s.ew k)] else []) = _
    rw [hf, if_pos rfl]
  have HSN : Hid (∀ k, s.ful k = false → s.allU (k + 1) = s.allU k) := Lib.hid fun k hf => by
    show s.allU k ++ (if s.ful k then [(k, s.eh k, s.ew k)] else []) = _
    rw [hf, if_neg Bool.false_ne_true, List.append_nil]
  have HPr : Hid (∀ k, k ≤ s.n → s.allU k <+: s.all) := Lib.hid fun k hk => Tb.allU_pre s hk
  have HLt : Hid (∀ k, k < s.n → s.ful k = true → (s.allU k).length < s.all.length) := Lib.hid fun k hk hf => by
    have := (HPr.out (k + 1) hk).length_le
    rw [HSY.out k hf, List.length_append] at this
    simp at this
    omega
  have HYd := Lib.hid hY
  have HJ := Lib.hid hJ
  have HK0 : Hid (Kept R w0 W) := Lib.hid (Kept.of_below hW R)
  have HJ0 : Hid (J (s.allU 0) W) := Lib.hid hJ0
  obtain ⟨n, hn⟩ : ∃ n, n = s.n := ⟨_, rfl⟩
  have HN := Lib.hid hn
  rw [← hn] at cap htop HLt HPr
  have hnil : ∀ V : World, (binOp .eql 106 (.func (.yield l) #[] #[]) .nilFunc).run Try.prog V = .ok (.bool false) V := fun _ => by kernel_rfl
  clear hY hJ hW hJ0 hJx hx hc hRF hR0 hb0 hn
  refine callsIn_of_wp Try.func72 rfl trivial ?_ rfl
  simp only [Try.ntmps72, List.size_toArray, List.length_cons, List.length_nil, Nat.reduceAdd, Nat.reduceSub, Array.replicate_succ, Array.replicate_zero, List.push_toArray, List.append_toArray, List.nil_append, List.cons_append]
  have x0 := HC.out W HK0.out
  have HMd := Lib.hid (tmade_yes (blk_cell (PTY.blk (HX.out W HK0.out)) 0) (PTY.pos (HX.out W HK0.out)).1)
  gi_wp2_with (
    refine ⟨trivial, ?_⟩
    gi_at_call 60
    refine (callsIn_wide.2 HMd.out).mono ?_
    rintro e W1 ⟨rfl, hb⟩
    have HK1 := Lib.hid (HK0.out.step hb)
    have HJ1 := Lib.hid (HJ.out _ _ _ none HJ0.out (grown_below hb) (fun r e => nomatch e))
    have x1 := HC.out W1 HK1.out
    have x2 : W1.cell? ⟨p, 0, none⟩ = some (.slice (some ⟨g, 0, none⟩) n c) := by rw [HN.out]; exact blk_cell (PTY.blk (HX.out W1 HK1.out)) 0
    clear hb x0)
  clear x1 x2 HJ0 HK0 HMd hnil
  gi_loopw [18] (fun i wr => ∃ k : Nat, k ≤ n ∧ i = .int .i64 (k : Int) ∧ J (s.allU k) wr ∧ Kept R w0 wr) (fun i _ => n - (intOf i).toNat)
  case atStart => exact ⟨0, Nat.zero_le _, rfl, HJ1.out, HK1.out⟩
  case round =>
    obtain ⟨k, hk, rfl, hJs, hkw⟩ := hrel
    have HJs := Lib.hid hJs
    have HKw := Lib.hid hkw
    clear hJs hkw
    have zw : IntKind.i64.wrap ((k : Int) + 1) = (k : Int) + 1 := by rw [IntKind.wrap_i64]; omega
    by_cases hlt : k < n
    · have hlt' : (k : Int) < (n : Int) := by omega
      have k0 : (0 : Int) ≤ (k : Int) := by omega
      have k2 : ((k : Int)).toNat = k := by omega
      have hkn : k < s.n := by rw [← HN.out]; exact hlt
      have g0 := (HX.out wr HKw.out).c0 hkn
      have g1 := (HX.out wr HKw.out).c1 hkn
      have g2 := (HX.out wr HKw.out).c2 hkn
      cases hf : s.ful k with
      | false =>
        have hst := stc_not hf
        have HT := Lib.hid (HSN.out k hf)
        obtain ⟨a, ha⟩ : ∃ a, a = stc s k := ⟨_, rfl⟩
        rw [← ha] at g0 hst
        have hne : ((a : Int) == 1) = false := by simp; omega
        clear hf ha hst hkn g1 g2
        gi_wp2
        refine ⟨fun _ h => (by cases h), ?_⟩
        gi_wp2
        go_roundw
        case rel => exact ⟨k + 1, by omega, by go_num, by rw [HT.out]; exact HJs.out, HKw.out⟩
        case measure => simp [intOf]; omega
      | true =>
        rw [stc_ful hf] at g0
        have g0 : wr.cell? ⟨g, k * 3, none⟩ = some (.int .u8 1) := g0
        have HT := Lib.hid (HSY.out k hf)
        have HLk := Lib.hid (HLt.out k hlt hf)
        obtain ⟨fn, tmps, assign, body, hy, hR2⟩ := HYd.out (s.allU k) (k, s.eh k, s.ew k) wr HJs.out HLk.out
        dsimp only [tEnc] at hy
        have HR2 := Lib.hid hR2
        clear hR2 hf hkn
        gi_wp2
        refine HR2.out.mono ?_
        rintro e W3 (⟨rfl, hJ3, hk3⟩ | ⟨rfl, hJx3⟩)
        · have HK3 := Lib.hid (HKw.out.trans hk3 fun _ _ r => r)
          have HJ3 := Lib.hid hJ3
          clear hJ3 hk3 hy g0 g1 g2
          gi_wp2
          go_roundw
          case rel => exact ⟨k + 1, by omega, by go_num, by rw [HT.out]; exact HJ3.out, HK3.out⟩
          case measure => simp [intOf]; omega
        · have HJ3 := Lib.hid hJx3
          clear hJx3 hy g0 g1 g2
          gi_wp2
          exact ⟨rfl, _, results_none rfl _ _ _, ⟨_, rfl⟩, .inr ⟨_, by rw [← HT.out]; exact HPr.out (k + 1) hlt, HJ3.out⟩⟩
    · have hlt' : ¬ (k : Int) < (n : Int) := by omega
      have HKN : Hid (k = s.n) := Lib.hid (by rw [← HN.out]; omega)
      gi_wp2
      refine ⟨rfl, _, results_none rfl _ _ _, ⟨_, rfl⟩, .inl ?_⟩
      have e : s.all = s.allU k := by
        rw [HKN.out]
        rfl
      rw [e]
      exact HJs.out
theorem tall_any {w : World} {p g c : Nat} {e : Int} {s : Tb} {F : Nat → Prop} (h : PTX w p g c e s F) : Calls Try.prog 59 #[.pointer (some ⟨p, 0, none⟩)] w fun e w' => ∃ lb Fi, e = .returned (.func (.func 72) #[] lb) ∧ Below w.heap.size w w' ∧ (∀ k, Fi k → k < w'.heap.size ∧ (F k ∨ w.heap.size ≤ k)) ∧ ItG tEnc 72 lb s.all Fi w' := by
  refine (all_any w _).mono ?_
  rintro r w' ⟨rfl, rfl⟩
  have hb := below_alloc w (.cells #[.pointer (some ⟨p, 0, none⟩)] 49)
  have hz : (w.alloc (.cells #[.pointer (some ⟨p, 0, none⟩)] 49)).heap.size = w.heap.size + 1 := by simp
  refine ⟨_, fun k => F k ∨ k = w.heap.size, rfl, hb, fun k hk => ?_, fun R hR => ?_⟩
  · rcases hk with q | rfl
    · have := PTY.old h k q
      exact ⟨by omega, .inl q⟩
    · exact ⟨by omega, .inr (Nat.le_refl _)⟩
  · exact all_it (PTY.step h hb) (fun k q => hR k (.inl q)) (hR _ (.inr rfl)) (by omega) (blk_cell (heap_alloc_new w _) 0)
end Go.Proofs.Ythjghofjdcepmaa
