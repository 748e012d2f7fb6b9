/- Stage 17: the document's Next. -/
import Derived.Test.YtkifcolaboalgaaPmb
namespace Go.Proofs.Ytkifcolaboalgaa
set_option maxRecDepth 100000
open Go.RowKit Go.Shelf
set_option maxHeartbeats 1000000 in
theorem rnext_any (n : Int) (w : World) : Calls Try.prog 7 #[.int .i64 n] w (ret (.tuple #[.int .i64 ((nxV n).1 : Int), .int .i64 (nxV n).2]) w) := by
  have HS := Lib.hid fun x W => rsize_any x W
  have HY : Hid (∀ X : Int, n ≤ X → 7 ≤ X → (∀ y : Nat, n ≤ (y : Int) → (y : Int) < X → szP y = false) → szP X = true → ∃ x : Nat, X = (x : Int) ∧ nxV n = (x, 0)) := Lib.hid fun X h1 h2 h3 h4 => by
    obtain ⟨x, rfl⟩ := Int.eq_ofNat_of_zero_le (show 0 ≤ X by omega)
    exact ⟨x, rfl, nx_some ⟨h4, h1, fun y hy hyx => h3 y hy (by omega)⟩⟩
  have HN : Hid (∀ X : Int, (∀ y : Nat, n ≤ (y : Int) → (y : Int) < X → szP y = false) → 65537 < X → nxV n = (0, 15)) := Lib.hid fun X h3 h4 => nx_none fun x hx => by
    have h := szP_le hx.1
    have := h3 x hx.2.1 (by omega)
    rw [hx.1] at this
    cases this
  obtain ⟨V, hV⟩ : ∃ V, V = nxV n := ⟨_, rfl⟩
  rw [← hV] at HY HN ⊢
  have H7 : Hid (∀ y : Nat, (y : Int) < 7 → szP y = false) := Lib.hid fun y hy => by
    cases hs : szP y with
    | false => rfl
    | true =>
      have := szP_le hs
      omega
  clear hV
  by_cases h0 : n < 7
  · go_enter Try.func7, Try.ntmps7
    go_wp2_with fail
    go_loopw [0] (fun vx wr => ∃ X : Int, n ≤ X ∧ 7 ≤ X ∧ (X ≤ 65538 ∨ X = n) ∧ (∀ y : Nat, n ≤ (y : Int) → (y : Int) < X → szP y = false) ∧ vx = .int .i64 X ∧ Below w.heap.size w wr) (fun vx _ => (65538 - intOf vx).toNat)
    case atStart => exact ⟨7, by omega, by omega, .inl (by omega), fun y _ hy => H7.out y hy, rfl, Below.refl _ _⟩
    case round =>
      obtain ⟨X, h1, h2, h3, h4, rfl, hb⟩ := hrel
      have HB := Lib.hid hb
      have H4 := Lib.hid h4
      clear hb h4
      by_cases hx : X ≤ 65537
      · have zx : IntKind.i64.wrap (X + 1) = X + 1 := by rw [IntKind.wrap_i64]; omega
        have HSX := Lib.hid fun W => HS.out X W
        cases hs : szP X with
        | true =>
          rw [hs] at HSX
          obtain ⟨x, hxx, hv⟩ := HY.out X h1 h2 H4.out hs
          have HV := Lib.hid hv
          have HXX := Lib.hid hxx
          clear hs hxx hv h3
          go_wp2_with (first
            | (go_at_call 11
               refine (HSX.out _).mono ?_
               rintro e u1 ⟨rfl, hb⟩
               have HB1 := Lib.hid (HB.out.trans (hb.mono HB.out.size))
               clear hb))
          go_ret2
          exact ⟨by rw [HV.out, HXX.out]; rfl, HB1.out⟩
        | false =>
          rw [hs] at HSX
          have HF := Lib.hid hs
          clear hs
          go_wp2_with (first
            | (go_at_call 11
               refine (HSX.out _).mono ?_
               rintro e u1 ⟨rfl, hb⟩
               have HB1 := Lib.hid (HB.out.trans (hb.mono HB.out.size))
               clear hb))
          go_roundw
          case rel =>
            refine ⟨X + 1, by omega, by omega, .inl (by omega), fun y hy hyx => ?_, by go_num, HB1.out⟩
            rcases (show (y : Int) < X ∨ (y : Int) = X by omega) with q | q
            · exact H4.out y hy q
            · rw [q]
              exact HF.out
          case measure => simp [intOf]; omega
      · have HV := Lib.hid (HN.out X H4.out (by omega))
        clear h3
        go_wp2_with fail
        go_ret2
        exact ⟨by rw [HV.out]; rfl, HB.out⟩
  · go_enter Try.func7, Try.ntmps7
    go_wp2_with fail
    go_loopw [0] (fun vx wr => ∃ X : Int, n ≤ X ∧ 7 ≤ X ∧ (X ≤ 65538 ∨ X = n) ∧ (∀ y : Nat, n ≤ (y : Int) → (y : Int) < X → szP y = false) ∧ vx = .int .i64 X ∧ Below w.heap.size w wr) (fun vx _ => (65538 - intOf vx).toNat)
    case atStart => exact ⟨n, by omega, by omega, .inr rfl, fun y h1 h2 => by omega, rfl, Below.refl _ _⟩
    case round =>
      obtain ⟨X, h1, h2, h3, h4, rfl, hb⟩ := hrel
      have HB := Lib.hid hb
      have H4 := Lib.hid h4
      clear hb h4
      by_cases hx : X ≤ 65537
      · have zx : IntKind.i64.wrap (X + 1) = X + 1 := by rw [IntKind.wrap_i64]; omega
        have HSX := Lib.hid fun W => HS.out X W
        cases hs : szP X with
        | true =>
          rw [hs] at HSX
          obtain ⟨x, hxx, hv⟩ := HY.out X h1 h2 H4.out hs
          have HV := Lib.hid hv
          have HXX := Lib.hid hxx
          clear hs hxx hv h3
          go_wp2_with (first
            | (go_at_call 11
               refine (HSX.out _).mono ?_
               rintro e u1 ⟨rfl, hb⟩
               have HB1 := Lib.hid (HB.out.trans (hb.mono HB.out.size))
               clear hb))
          go_ret2
          exact ⟨by rw [HV.out, HXX.out]; rfl, HB1.out⟩
        | false =>
          rw [hs] at HSX
          have HF := Lib.hid hs
          clear hs
          go_wp2_with (first
            | (go_at_call 11
               refine (HSX.out _).mono ?_
               rintro e u1 ⟨rfl, hb⟩
               have HB1 := Lib.hid (HB.out.trans (hb.mono HB.out.size))
               clear hb))
          go_roundw
          case rel =>
            refine ⟨X + 1, by omega, by omega, .inl (by omega), fun y hy hyx => ?_, by go_num, HB1.out⟩
            rcases (show (y : Int) < X ∨ (y : Int) = X by omega) with q | q
            · exact H4.out y hy q
            · rw [q]
              exact HF.out
          case measure => simp [intOf]; omega
      · have HV := Lib.hid (HN.out X H4.out (by omega))
        clear h3
        go_wp2_with fail
        go_ret2
        exact ⟨by rw [HV.out]; rfl, HB.out⟩
end Go.Proofs.Ytkifcolaboalgaa
