/- Stage 19: a taker's next slot; a take. -/
import Derived.Deep.LoopGhost
import Derived.Test.YtfchmmojhfjibaaMgf
namespace Go.Proofs.Ytfchmmojhfjibaa
set_option maxRecDepth 100000
open Go.RowKit Go.Shelf
theorem slN_step (o k m i : Nat) : (slN o k m i + k) % m = slN o k m (i + 1) := by
  unfold slN
  rw [Nat.mod_add_mod, Nat.add_mul, Nat.one_mul, Nat.add_assoc]
theorem own_keep2 {w w' : World} {base size : Nat} {e : TypeId} {A : Option Addr} {n c : Nat} {f : Nat → Value} (h : OwnC w base e size A n c f) (hw : ∀ g, A = some ⟨g, 0, none⟩ → w'.heap[g]? = w.heap[g]?) : OwnC w' base e size A n c f := by
  refine ⟨h.1, ?_⟩
  rcases h.2 with hh | ⟨g, cap, cur, hv, hg, hh, r⟩
  · exact .inl hh
  · injection hv with h1 h2 h3
    exact .inr ⟨g, cap, cur, by rw [h1, h3], hg, (hw g h1).trans hh, r⟩
/-- The table and the takers, each a row of the call's own. -/
structure FW (w : World) (B T K cT cK m P : Nat) (tb : Nat → Int) (f : Nat → Value) : Prop where
  tbl : OwnC w B 3 1 (some ⟨T, 0, none⟩) m cT (iV tb)
  tk : OwnC w B 62 4 (some ⟨K, 0, none⟩) P cK f
  ne : T ≠ K
theorem FW.setK {w : World} {B T K cT cK m P : Nat} {tb : Nat → Int} {f : Nat → Value} (h : FW w B T K cT cK m P tb f) (p : Nat) (v : Value) : FW (w.setCell ⟨K, p, none⟩ v) B T K cT cK m P tb (updV f p v) :=
  ⟨own_keep2 h.tbl fun g e => by
    injection e with e
    injection e with e
    subst e
    exact Below.heap_setCell w ⟨K, p, none⟩ v T h.ne, h.tk.set_ p v, h.ne⟩
theorem FW.setT {w : World} {B T K cT cK m P : Nat} {tb : Nat → Int} {f : Nat → Value} (h : FW w B T K cT cK m P tb f) (s : Nat) (v : Int) : FW (w.setCell ⟨T, s, none⟩ (.int .i64 v)) B T K cT cK m P (fun j => if j = s then v else tb j) f :=
  ⟨(h.tbl.set_ s (.int .i64 v)).same fun j _ => by
    unfold updV iV
    by_cases e : j = s
    · simp [e]
    · simp [e], own_keep2 h.tk fun g e => by
    injection e with e
    injection e with e
    subst e
    exact Below.heap_setCell w ⟨T, s, none⟩ (.int .i64 v) K (fun e => h.ne e.symm), h.ne⟩
theorem FW.same {w : World} {B T K cT cK m P : Nat} {tb tb' : Nat → Int} {f f' : Nat → Value} (h : FW w B T K cT cK m P tb f) (ht : ∀ s, s < m → tb' s = tb s) (hf : ∀ x, x < P * 4 → f' x = f x) : FW w B T K cT cK m P tb' f' :=
  ⟨h.tbl.same fun j hj => by unfold iV; rw [ht j (by omega)], h.tk.same hf, h.ne⟩
theorem FW.ct {w : World} {B T K cT cK m P : Nat} {tb : Nat → Int} {f : Nat → Value} (h : FW w B T K cT cK m P tb f) {s : Nat} (hs : s < m) : w.cell? ⟨T, s, none⟩ = some (.int .i64 (tb s)) ∧ w.frozen? ⟨T, s, none⟩ = false ∧ B ≤ T := by
  obtain ⟨g, e, hg, _, hc, hf⟩ := h.tbl.lies (by omega)
  injection e with e
  injection e with e
  subst e
  exact ⟨hc s (by omega), hf s, hg⟩
theorem FW.ck {w : World} {B T K cT cK m P : Nat} {tb : Nat → Int} {f : Nat → Value} (h : FW w B T K cT cK m P tb f) {x : Nat} (hx : x < P * 4) : w.cell? ⟨K, x, none⟩ = some (f x) ∧ w.frozen? ⟨K, x, none⟩ = false ∧ B ≤ K := by
  obtain ⟨g, e, hg, _, hc, hf⟩ := h.tk.lies (by omega)
  injection e with e
  injection e with e
  subst e
  exact ⟨hc x hx, hf x, hg⟩
theorem pnx_any (K x s k m : Nat) (w : World) (c2 : w.cell? ⟨K, x + 2, none⟩ = some (.int .i64 (s : Int))) (c3 : w.cell? ⟨K, x + 3, none⟩ = some (.int .i64 (k : Int))) (f2 : w.frozen? ⟨K, x + 2, none⟩ = false) (hs : s < m) (hk : k < m) (hm : m ≤ 100000) : Calls Try.prog 50 #[.pointer (some ⟨K, x, none⟩), .int .i64 (m : Int)] w fun e w' => e = .returned (.int .i64 (s : Int)) ∧ w' = w.setCell ⟨K, x + 2, none⟩ (.int .i64 (((s + k) % m : Nat) : Int)) := by
  obtain ⟨r, hr⟩ : ∃ r, r = (s + k) % m := ⟨_, rfl⟩
  rw [← hr]
  have z1 : ¬ (m : Int) = 0 := by omega
  have z2 : ((s : Int) + (k : Int)) % (m : Int) = (r : Int) := by rw [hr, Int.natCast_emod, Int.natCast_add]
  have z3 : ((s : Int) + (k : Int)).tmod (m : Int) = (r : Int) := by rw [Int.tmod_eq_emod_of_nonneg (by omega)]; exact z2
  clear hr
  go_enter Try.func50, Try.ntmps50
  go_wp2_with fail
  go_ret
  exact ⟨rfl, rfl⟩
set_option maxHeartbeats 2000000 in
theorem ptk_any {w : World} {B T K cT cK m P : Nat} {tb : Nat → Int} {f : Nat → Value} (h : FW w B T K cT cK m P tb f) (x o k p js : Nat) (num : Int) (hx : x + 3 < P * 4) (f0 : f x = .int .i64 num) (f2 : f (x + 2) = .int .i64 (slN o k m p : Int)) (f3 : f (x + 3) = .int .i64 (k : Int)) (hp : p ≤ js) (hk : k < m) (hm : m ≤ 100000) (hfree : tb (slN o k m js) = -1) (hocc : ∀ j, p ≤ j → j < js → tb (slN o k m j) ≠ -1) :
    Calls Try.prog 39 #[.pointer (some ⟨K, x, none⟩), .slice (some ⟨T, 0, none⟩) m cT] w fun e w' => e = .returned (.tuple #[]) ∧ FW w' B T K cT cK m P (fun s => if s = slN o k m js then num else tb s) (updV f (x + 2) (.int .i64 (slN o k m (js + 1) : Int))) ∧ Below B w w' := by
  have HN : Hid (∀ (W : World) (j : Nat), FW W B T K cT cK m P tb (updV f (x + 2) (.int .i64 (slN o k m j : Int))) → Calls Try.prog 50 #[.pointer (some ⟨K, x, none⟩), .int .i64 (m : Int)] W fun e w' => e = .returned (.int .i64 (slN o k m j : Int)) ∧ FW w' B T K cT cK m P tb (updV f (x + 2) (.int .i64 (slN o k m (j + 1) : Int))) ∧ Below B W w') := Lib.hid fun W j hW => by
    have a2 := hW.ck (x := x + 2) (by omega)
    have a3 := hW.ck (x := x + 3) (by omega)
    have e2 : updV f (x + 2) (.int .i64 (slN o k m j : Int)) (x + 2) = .int .i64 (slN o k m j : Int) := by unfold updV; rw [if_pos rfl]
    have e3 : updV f (x + 2) (.int .i64 (slN o k m j : Int)) (x + 3) = .int .i64 (k : Int) := by unfold updV; rw [if_neg (by omega)]; exact f3
    rw [e2] at a2
    rw [e3] at a3
    refine (pnx_any K x (slN o k m j) k m W a2.1 a3.1 a2.2.1 (slN_lt (by omega) j) hk hm).mono ?_
    rintro e w' ⟨rfl, rfl⟩
    refine ⟨rfl, ?_, (Below.refl B W).setCell (p := ⟨K, x + 2, none⟩) a2.2.2 _⟩
    rw [slN_step]
    refine (hW.setK (x + 2) _).same (fun _ _ => rfl) fun y _ => ?_
    unfold updV
    by_cases e : y = x + 2
    · rw [if_pos e, if_pos e]
    · rw [if_neg e, if_neg e, if_neg e]
  have HW0 : Hid (FW w B T K cT cK m P tb (updV f (x + 2) (.int .i64 (slN o k m p : Int)))) := Lib.hid (h.same (fun _ _ => rfl) fun y _ => by
    unfold updV
    by_cases e : y = x + 2
    · rw [if_pos e, e, f2]
    · rw [if_neg e])
  have HC0 := Lib.hid (HN.out w p HW0.out)
  have HFR := Lib.hid hfree
  have HOC := Lib.hid hocc
  have HF0 : Hid (∀ W j, FW W B T K cT cK m P tb (updV f (x + 2) (.int .i64 (slN o k m j : Int))) → W.cell? ⟨K, x, none⟩ = some (.int .i64 num)) := Lib.hid fun W j hW => by
    have a := (hW.ck (x := x) (by omega)).1
    unfold updV at a
    rw [if_neg (by omega), f0] at a
    exact a
  have hm0 : 0 < m := by omega
  obtain ⟨S, hS⟩ : ∃ S, S = slN o k m := ⟨_, rfl⟩
  have HSL : Hid (∀ j, S j < m) := Lib.hid fun j => by rw [hS]; exact slN_lt hm0 j
  rw [← hS] at HN HC0 HFR HOC HF0 ⊢
  clear h f0 f2 f3 hfree hocc HW0 hS
  go_enter Try.func39, Try.ntmps39
  go_wp2_with (first
    | (go_at_call 50
       refine HC0.out.mono ?_
       rintro e u1 ⟨rfl, h1, h2⟩
       have HW1 := Lib.hid h1
       have HB1 := Lib.hid h2
       clear h1 h2))
  go_loopg [4] js (fun gh vs wr => ∃ j : Nat, p ≤ j ∧ j ≤ js ∧ js - j ≤ gh ∧ vs = .int .i64 (S j : Int) ∧ FW wr B T K cT cK m P tb (updV f (x + 2) (.int .i64 (S (j + 1) : Int))) ∧ Below B w wr)
  case atStart => exact ⟨p, Nat.le_refl _, hp, by omega, rfl, HW1.out, HB1.out⟩
  case round =>
    obtain ⟨j, hpj, hjs, hgh, rfl, hw, hb⟩ := hrel
    have HW := Lib.hid hw
    have HB := Lib.hid hb
    have hsj := HSL.out j
    have s0 : (0 : Int) ≤ (S j : Int) := by omega
    have s1 : (S j : Int) < (m : Int) := by omega
    have s2 : ((S j : Int)).toNat = S j := by omega
    have HT := Lib.hid (hw.ct hsj)
    have y0 := HF0.out wr (j + 1) hw
    have HC := Lib.hid (HN.out wr (j + 1) hw)
    have HEQ : Hid (j = js → tb (S j) = -1) := Lib.hid fun e => by rw [e]; exact HFR.out
    have HNE : Hid (j ≠ js → tb (S j) ≠ -1) := Lib.hid fun e => HOC.out j hpj (by omega)
    have HSE : Hid (j = js → S j = S js) := Lib.hid fun e => by rw [e]
    obtain ⟨q, hq⟩ : ∃ q, q = S j := ⟨_, rfl⟩
    rw [← hq] at s0 s1 s2 HT HEQ HNE HSE hsj
    rw [← hq]
    have xt := HT.out.1
    have xf := HT.out.2.1
    obtain ⟨v, hv⟩ : ∃ v, v = tb q := ⟨_, rfl⟩
    rw [← hv] at xt HEQ HNE
    clear hq hv hw hb HW1 HB1
    by_cases e : j = js
    · have d1 : v = -1 := HEQ.out e
      subst d1
      have HE := Lib.hid (HSE.out e)
      have HJ := Lib.hid e
      clear e HEQ HNE HSE
      go_wp2_with fail
      go_end0
      refine ⟨rfl, ?_, HB.out.setCell (p := ⟨T, q, none⟩) HT.out.2.2 _⟩
      rw [← HE.out, ← HJ.out]
      exact HW.out.setT q num
    · have d1 : ¬ v = -1 := HNE.out e
      have hlt : j < js := by omega
      clear e HEQ HNE HSE
      go_wp2_with (first
        | (go_at_call 50
           refine HC.out.mono ?_
           rintro e u1 ⟨rfl, h1, h2⟩
           have HW2 := Lib.hid h1
           have HB2 := Lib.hid (HB.out.trans h2)
           clear h1 h2))
      go_roundg (js - (j + 1))
      case measure => omega
      case rel => exact ⟨j + 1, by omega, by omega, Nat.le_refl _, rfl, HW2.out, HB2.out⟩
end Go.Proofs.Ytfchmmojhfjibaa
