/- Stage 19: what is asked of the program; slices compared. -/
import Derived.Test.YtfchmmojhfjibaaMgf
import Derived.Laws.StructEq
namespace Go.Proofs.Ytfchmmojhfjibaa
set_option maxRecDepth 100000
open Go.RowKit Go.Shelf
def shL (N : Int) : Nat := if 1 ≤ N ∧ N ≤ 16 then N.toNat else 0
def shV (t : Nat → Int) (n : Nat) (x : Nat) : Int := (cntI t (x : Int) n : Int)
set_option maxHeartbeats 2000000 in
theorem rshares_any (t : Nat → Int) (A : Option Addr) (n c : Nat) (N : Int) (w : World) (h : RdC w w.heap.size A n (iV t)) (hn9 : n ≤ 100000) : Calls Try.prog 14 #[.slice A n c, .int .i64 N] w (OutI (shL N) (shV t n) w) := by
  have HL := Lib.hid h
  by_cases h1 : N < 1
  · have e : shL N = 0 := by unfold shL; rw [if_neg (by omega)]
    rw [e]
    clear h e
    go_enter Try.func14, Try.ntmps14
    go_wp2_with fail
    go_ret
    exact ⟨none, 0, rfl, Nat.le_refl _, by omega, .inl rfl, Below.refl _ _⟩
  by_cases h2 : 16 < N
  · have e : shL N = 0 := by unfold shL; rw [if_neg (by omega)]
    rw [e]
    clear h e
    go_enter Try.func14, Try.ntmps14
    go_wp2_with fail
    go_ret
    exact ⟨none, 0, rfl, Nat.le_refl _, by omega, .inl rfl, Below.refl _ _⟩
  obtain ⟨K, rfl⟩ := Int.eq_ofNat_of_zero_le (show 0 ≤ N by omega)
  have e : shL (K : Int) = K := by unfold shL; rw [if_pos (by omega), Int.toNat_natCast]
  rw [e]
  clear e
  have hK1 : 1 ≤ K := by omega
  have hK9 : K ≤ 16 := by omega
  obtain ⟨u, hmk, ho, hg⟩ := made_i w K (by omega)
  have HO := Lib.hid ho
  have HB : Hid (Below w.heap.size w u) := Lib.hid ((Below.refl _ _).grown hg (Nat.le_refl _) fun _ h => nomatch h)
  obtain ⟨g, hgg⟩ : ∃ g, g = w.heap.size := ⟨_, rfl⟩
  rw [← hgg] at hmk HO
  have HGG := Lib.hid hgg
  clear hgg ho hg h
  go_enter Try.func14, Try.ntmps14
  go_wp2_with fail
  clear hmk
  go_loopw [6] (fun vi wr => ∃ i : Nat, i ≤ n ∧ vi = .int .i64 (i : Int) ∧ OwnC wr g 3 1 (some ⟨g, 0, none⟩) K K (iV (shV t i)) ∧ Below w.heap.size w wr) (fun vi _ => n - (intOf vi).toNat)
  case atStart => exact ⟨0, Nat.zero_le _, rfl, HO.out, HB.out⟩
  case round =>
    obtain ⟨i, hi, rfl, ho, hb⟩ := hrel
    have HO1 := Lib.hid ho
    have HB1 := Lib.hid hb
    by_cases hlt : i < n
    · have l1 : (i : Int) < (n : Int) := by omega
      have i0 : (0 : Int) ≤ (i : Int) := by omega
      have i2 : ((i : Int)).toNat = i := by omega
      have zi : IntKind.i64.wrap ((i : Int) + 1) = (i : Int) + 1 := by rw [IntKind.wrap_i64]; omega
      obtain ⟨b, off, rfl, hbb, hc⟩ : ∃ b off, A = some ⟨b, off, none⟩ ∧ b < w.heap.size ∧ w.cell? ⟨b, off + i, none⟩ = some (.int .i64 (t i)) := by
        rcases HL.out with h0 | ⟨b, off, e, hb, hc⟩
        · omega
        · exact ⟨b, off, e, hb, hc i hlt⟩
      have x1 := (hb.cell (p := ⟨b, off + i, none⟩) hbb).trans hc
      have HSH : Hid (∀ x : Nat, shV t (i + 1) x = shV t i x + if t i = (x : Int) then 1 else 0) := Lib.hid fun x => by
        unfold shV
        show ((cntI t (x : Int) i + (if t i = (x : Int) then 1 else 0) : Nat) : Int) = _
        rw [Int.natCast_add]
        congr 1
        split <;> rfl
      have HCB : Hid (∀ x : Nat, 0 ≤ shV t i x ∧ shV t i x ≤ i) := Lib.hid fun x => by
        have := cntI_le t (x : Int) i
        unfold shV
        omega
      obtain ⟨v, hv⟩ : ∃ v, v = t i := ⟨_, rfl⟩
      rw [← hv] at x1 HSH
      have hne : b ≠ g := by have := HGG.out; omega
      clear hv hc
      by_cases hin : 0 ≤ v ∧ v < (K : Int)
      · obtain ⟨x, rfl⟩ := Int.eq_ofNat_of_zero_le hin.1
        have d1 : (0 : Int) ≤ (x : Int) := by omega
        have d2 : (x : Int) < (K : Int) := hin.2
        have d3 : ((x : Int)).toNat = x := by omega
        obtain ⟨g', e, _, hgl, hcc, hfz⟩ := ho.lies (by omega)
        injection e with e
        injection e with e
        subst e
        have xc := hcc x (by omega)
        have xf := hfz x
        have hvb := HCB.out x
        unfold iV at xc
        obtain ⟨q, hq⟩ : ∃ q, q = shV t i x := ⟨_, rfl⟩
        rw [← hq] at xc hvb
        have HQ := Lib.hid hq
        have zq : IntKind.i64.wrap (q + 1) = q + 1 := by rw [IntKind.wrap_i64]; omega
        have HSET : Hid (OwnC (wr.drew.setCell ⟨g, x, none⟩ (.int .i64 (q + 1))) g 3 1 (some ⟨g, 0, none⟩) K K (iV (shV t (i + 1)))) := Lib.hid ((HO1.out.drew.set_ x (.int .i64 (q + 1))).same fun j _ => by
          unfold updV iV
          rw [HSH.out]
          by_cases e : j = x
          · rw [if_pos e, e, if_pos rfl, HQ.out]
          · rw [if_neg e, if_neg (by omega), Int.add_zero])
        have HB2 : Hid (Below w.heap.size w (wr.drew.setCell ⟨g, x, none⟩ (.int .i64 (q + 1)))) := Lib.hid (HB1.out.drew.setCell (p := ⟨g, x, none⟩) (by have := HGG.out; show w.heap.size ≤ g; omega) _)
        clear hin ho hb hcc hfz hq hgl hvb
        go_upto_region 8 with fail
        go_still_tail 14, (by kernel_rfl)
        repeat still_step
        try refine wpStill_nil ?_
        change wpList _ _ _ _ _ wr.drew
        have xf' : wr.drew.frozen? ⟨g, x, none⟩ = false := xf
        have xc' : wr.drew.cell? ⟨g, x, none⟩ = some (.int .i64 q) := xc
        clear xf xc
        generalize wr.drew = v1 at *
        go_wp2_with fail
        go_roundw
        case rel => exact ⟨i + 1, by omega, by go_num, HSET.out, HB2.out⟩
        case measure => simp [intOf]; omega
      · have HSAME : Hid (OwnC wr g 3 1 (some ⟨g, 0, none⟩) K K (iV (shV t (i + 1)))) := Lib.hid (ho.same fun j hj => by
          unfold iV
          rw [HSH.out, if_neg (by omega), Int.add_zero])
        by_cases d1 : 0 ≤ v
        · have d2 : ¬ v < (K : Int) := by omega
          clear ho hb
          go_wp2_with fail
          go_roundw
          case rel => exact ⟨i + 1, by omega, by go_num, HSAME.out, HB1.out⟩
          case measure => simp [intOf]; omega
        · clear ho hb
          go_wp2_with fail
          go_roundw
          case rel => exact ⟨i + 1, by omega, by go_num, HSAME.out, HB1.out⟩
          case measure => simp [intOf]; omega
    · obtain rfl : i = n := by omega
      clear ho hb
      go_wp2_with fail
      go_ret
      have hr := HO1.out.rd
      rw [Nat.mul_one] at hr
      exact ⟨_, K, rfl, Nat.le_refl _, by omega, hr, HB1.out⟩
end Go.Proofs.Ytfchmmojhfjibaa
namespace Go.Proofs.Ytfchmmojhfjibaa
set_option maxRecDepth 100000
open Go.RowKit Go.Shelf
noncomputable def tbN (l : List Wt) (m : Int) : Nat := if mayW l m = true then m.toNat else 0
noncomputable def tbE (l : List Wt) (m : Int) : Int := if mayW l m = true then 0 else 2
/-- What Table tells. -/
def TabO (l : List Wt) (m : Int) (w : World) : Ending → World → Prop := fun e w' => ∃ A c, e = .returned (.tuple #[.slice A (tbN l m) c, .int .i64 (tbE l m)]) ∧ tbN l m ≤ c ∧ c ≤ 9223372036854775807 ∧ RdC w' w'.heap.size A (tbN l m) (iV (tabV l m.toNat)) ∧ Below w.heap.size w w'
/-- What the laws ask of the program. -/
structure MgP : Prop where
  may : ∀ (l : List Wt) (A : Option Addr) (c : Nat) (m : Int) (w : World), Lw w w.heap.size A c l → Calls Try.prog 8 #[.slice A l.length c, .int .i64 m] w (ret (.bool (mayW l m)) w)
  order : ∀ (l : List Wt) (A : Option Addr) (c : Nat) (w : World), Lw w w.heap.size A c l → l.length ≤ 30 → Calls Try.prog 11 #[.slice A l.length c] w (OutI (ordL l).length (fun j => (oa (ordL l) j : Int)) w)
  table : ∀ (l : List Wt) (A : Option Addr) (c : Nat) (m : Int) (w : World), Lw w w.heap.size A c l → Calls Try.prog 15 #[.slice A l.length c, .int .i64 m] w (TabO l m w)
  shares : ∀ (t : Nat → Int) (A : Option Addr) (n c : Nat) (N : Int) (w : World), RdC w w.heap.size A n (iV t) → n ≤ 100000 → n ≤ c → c ≤ 9223372036854775807 → Calls Try.prog 13 #[.slice A n c, .int .i64 N] w (OutI (shL N) (shV t n) w)
theorem eqI_any (f g : Nat → Int) (n : Nat) (A B : Option Addr) (c d : Nat) (w : World) (hn : n ≤ 4611686018427387904) (hA : RdC w w.heap.size A n (iV f)) (hB : RdC w w.heap.size B n (iV g)) (he : ∀ j, j < n → f j = g j) : Calls Try.prog 10 #[.slice A n c, .slice B n d] w (ret (.bool true) w) := by
  have HA := Lib.hid hA
  have HB := Lib.hid hB
  have HE := Lib.hid he
  clear hA hB he
  go_enter Try.func10, Try.ntmps10
  go_wp2_with fail
  go_loopw [13] (fun vi wr => ∃ i : Nat, i ≤ n ∧ vi = .int .i64 (i : Int) ∧ Below w.heap.size w wr) (fun vi _ => n - (intOf vi).toNat)
  case atStart => exact ⟨0, Nat.zero_le _, rfl, Below.refl _ _⟩
  case round =>
    obtain ⟨i, hi, rfl, hb⟩ := hrel
    have HBW := Lib.hid hb
    by_cases hlt : i < n
    · have l1 : (i : Int) < (n : Int) := by omega
      have i0 : (0 : Int) ≤ (i : Int) := by omega
      have i2 : ((i : Int)).toNat = i := by omega
      have zi : IntKind.i64.wrap ((i : Int) + 1) = (i : Int) + 1 := by rw [IntKind.wrap_i64]; omega
      rcases HA.out with h0 | ⟨a, ao, rfl, ha, hca⟩
      · omega
      rcases HB.out with h0 | ⟨b, bo, rfl, hb', hcb⟩
      · omega
      have xa := (hb.cell (p := ⟨a, ao + i, none⟩) ha).trans (hca i hlt)
      have xb := (hb.cell (p := ⟨b, bo + i, none⟩) hb').trans (hcb i hlt)
      unfold iV at xa xb
      rw [← HE.out i hlt] at xb
      obtain ⟨v, hv⟩ : ∃ v, v = f i := ⟨_, rfl⟩
      rw [← hv] at xa xb
      have hvv : (v != v) = false := by simp
      clear hca hcb ha hb' hv hb
      go_upto_region 6 with fail
      go_quiet (fail)
      go_wp2_with fail
      go_roundw
      case rel => exact ⟨i + 1, by omega, by go_num, below_drewN HBW.out _⟩
      case measure => simp [intOf]; omega
    · obtain rfl : n = i := by omega
      clear hb
      go_wp2_with fail
      go_ret
      exact ⟨rfl, HBW.out⟩
theorem neW (s : ByteArray) (v : Int) (W : World) : (binOp .neq 34 (.agg #[.string s, .int .i64 v]) (.agg #[.string s, .int .i64 v])).run Try.prog W = .ok (.bool false) W := by
  have h : (Op.equalIn 10000 34 (.agg #[.string s, .int .i64 v]) (.agg #[.string s, .int .i64 v])).run Try.prog W = .ok true W := by
    have hf : Try.prog.underlying 34 = some (.struct (Try.prog.fieldsOf 34)) := by kernel_rfl
    rw [run_equalIn_struct W 9999 34 _ _ hf (by kernel_rfl)]
    have hl : (Try.prog.fieldsOf 34).toList = [{ name := "Name", type := 9, offset := 0, embedded := false, tag := "", pkgPath := "", byteOffset := 0 }, { name := "Weight", type := 3, offset := 1, embedded := false, tag := "", pkgPath := "", byteOffset := 16 }] := by kernel_rfl
    rw [hl]
    have e1 : (Op.equalIn 9999 3 (.int .i64 v) (.int .i64 v)).run Try.prog W = .ok true W := by
      have h := run_equalIn_int (P := Try.prog) W 9998 3 .i64 .i64 v v Try.underlying3
      simpa using h
    have e2 : (Op.equalIn 9999 9 (.string s) (.string s)).run Try.prog W = .ok true W := by
      have h := run_equalIn_string (P := Try.prog) W 9998 9 s s Try.underlying9
      simpa using h
    have p0 : (part 9 #[.string s, .int .i64 v] 0).run Try.prog W = .ok (.string s) W := by kernel_rfl
    have p1 : (part 3 #[.string s, .int .i64 v] 1).run Try.prog W = .ok (.int .i64 v) W := by kernel_rfl
    simp [Op.eqFields, Sem.run_bind, p0, p1, e1, e2, Result.andThen_ok, Sem.run_ite, Sem.run_pure]
  have h : (Op.equalIn Op.maxDepth 34 (.agg #[.string s, .int .i64 v]) (.agg #[.string s, .int .i64 v])).run Try.prog W = _ := h
  unfold binOp
  simp [Op.equal, h, Result.andThen_ok]
theorem eqW_any (l : List Wt) (A B : Option Addr) (c d : Nat) (w : World) (hA : Lw w w.heap.size A c l) (hB : Lw w w.heap.size B d l) : Calls Try.prog 16 #[.slice A l.length c, .slice B l.length d] w (ret (.bool true) w) := by
  have HA := Lib.hid hA
  have HB := Lib.hid hB
  have hn9 := hA.few
  obtain ⟨n, hn⟩ : ∃ n, n = l.length := ⟨_, rfl⟩
  rw [← hn] at hn9 ⊢
  have HNN := Lib.hid hn
  clear hA hB hn
  go_enter Try.func16, Try.ntmps16
  go_wp2_with fail
  go_loopw [13] (fun vi wr => ∃ i : Nat, i ≤ n ∧ vi = .int .i64 (i : Int) ∧ Below w.heap.size w wr) (fun vi _ => n - (intOf vi).toNat)
  case atStart => exact ⟨0, Nat.zero_le _, rfl, Below.refl _ _⟩
  case round =>
    obtain ⟨i, hi, rfl, hb⟩ := hrel
    have HBW := Lib.hid hb
    by_cases hlt : i < n
    · have l1 : (i : Int) < (n : Int) := by omega
      have i0 : (0 : Int) ≤ (i : Int) := by omega
      have i2 : ((i : Int)).toNat = i := by omega
      have zi : IntKind.i64.wrap ((i : Int) + 1) = (i : Int) + 1 := by rw [IntKind.wrap_i64]; omega
      have hil : i < l.length := by rw [← HNN.out]; exact hlt
      obtain ⟨a, ao, e, ha, hca⟩ := HA.out.at_ hil
      subst e
      obtain ⟨b, bo, e, hb', hcb⟩ := HB.out.at_ hil
      subst e
      have xa := (hb.cell (p := ⟨a, ao + i * 2, none⟩) ha).trans (hca i hil).1
      have ya := (hb.cell (p := ⟨a, ao + i * 2 + 1, none⟩) ha).trans (hca i hil).2
      have xb := (hb.cell (p := ⟨b, bo + i * 2, none⟩) hb').trans (hcb i hil).1
      have yb := (hb.cell (p := ⟨b, bo + i * 2 + 1, none⟩) hb').trans (hcb i hil).2
      obtain ⟨S, hS⟩ : ∃ S, S = (wa l i).s := ⟨_, rfl⟩
      obtain ⟨V, hV⟩ : ∃ V, V = (wa l i).w := ⟨_, rfl⟩
      rw [← hS] at xa xb
      rw [← hV] at ya yb
      have hne := neW S V
      clear hca hcb ha hb' hb hS hV hil
      go_upto_region 6 with fail
      go_quiet (fail)
      go_wp2_with fail
      go_roundw
      case rel => exact ⟨i + 1, by omega, by go_num, below_drewN HBW.out _⟩
      case measure => simp [intOf]; omega
    · obtain rfl : n = i := by omega
      clear hb
      go_wp2_with fail
      go_ret
      exact ⟨rfl, HBW.out⟩
def bigW (l : List Wt) (m : Int) : Prop := (∃ i, i < l.length ∧ 40 < (wa l i).s.size) ∨ 30 < l.length ∨ 600 < m
end Go.Proofs.Ytfchmmojhfjibaa
