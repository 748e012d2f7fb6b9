/- Sorting that keeps what is the same in its order: the whole, up to thirty. -/
import Derived.Ground.SlsfProg
import Derived.Shelf.Lay
import Derived.Test.YtfchmmojhfjibaaSye
namespace Go.Proofs.Ytfchmmojhfjibaa
set_option maxRecDepth 100000
open Go.RowKit Go.Shelf
shelf_lay_g SlLaysF.n20 Slsf 20 at Try 45 as Try.insN
theorem sym_any {N : Nat} (cf : Fin (N + 1) → Fin (N + 1) → Int) (Rl : Fin (N + 1) → Fin (N + 1) → Prop) (tr : ∀ x y z, Rl x y → Rl y z → Rl x z) (blk off cap : Nat) (d0 : Array (Fin (N + 1))) (w0 : World) (g : Nat) (cb : Array Value) (eg : ∀ args w, (callFunc g args).run Try.prog w = .ok (.enter g args) w) (hcmp : CmpN g cb cf blk off d0.size w0) (R : Row1 eN w0 blk off d0) (L : Nat) (hs : d0.size = L) (hsz : L ≤ 100000) : ∀ (k a m b : Nat) (d : Array (Fin (N + 1))) (w : World), b - a ≤ k → a < m → m < b → b ≤ L → d.size = L → SWn w0 blk off d w → Sd Rl d a m → Sd Rl d m b → St (ltOf cf) Rl d a m b →
    Calls Try.prog 46 #[.slice (some ⟨blk, off, none⟩) L cap, .int .i64 (a : Int), .int .i64 (m : Int), .int .i64 (b : Int), .func (.func g) #[] cb] w (SymQ Rl w0 blk off d a b)
  | 0, a, m, b, d, w, hk, h1, h2, h3, h4, h5, h6, h7, h8 => by omega
  | k + 1, a, m, b, d, w, hk, h1, h2, h3, h4, h5, h6, h7, h8 => by
    by_cases e1 : m = a + 1
    · have h := sym_up cf Rl tr blk off cap d0 d w0 w g cb eg hcmp R (hs.trans h4.symm) h5 a m b e1 h2 (by omega) (by omega) h7 h8
      rw [h4] at h
      exact h
    · by_cases e2 : b = m + 1
      · have h := sym_down cf Rl tr blk off cap d0 d w0 w g cb eg hcmp R (hs.trans h4.symm) h5 a m b (by omega) e2 (by omega) (by omega) h6 h8
        rw [h4] at h
        exact h
      · exact sym_main cf Rl tr blk off cap d0 d w0 w g cb eg hcmp R L hs h4 h5 a m b (by omega) (by omega) h3 hsz h6 h7 h8 fun x y z dk W q1 q2 q3 q4 q5 q6 q7 q8 q9 =>
          sym_any cf Rl tr blk off cap d0 w0 g cb eg hcmp R L hs hsz k x y z dk W (by omega) q2 q3 q4 q5 q6 q7 q8 q9
/-- Of a later one against an earlier one what is asked tells the order. -/
def Lat {α : Type} [Inhabited α] (lt : α → α → Bool) (R : α → α → Prop) (d : Array α) (L : Nat) : Prop := ∀ i j, i < j → j < L → (lt d[j]! d[i]! = true → R d[j]! d[i]!) ∧ (lt d[j]! d[i]! = false → R d[i]! d[j]!)
theorem st_of {α : Type} [Inhabited α] {lt : α → α → Bool} {R : α → α → Prop} {d d1 d2 : Array α} {m L : Nat} (h : Lat lt R d L) (h1 : Seg d d1 0 m) (h2 : Seg d1 d2 m L) : St lt R d2 0 m L := fun i j q1 q2 q3 q4 => by
  obtain ⟨i2, r1, r2, e1⟩ := (h1.mem d2[i]!).1 ⟨i, q1, q2, (h2.out i (by omega)).symm⟩
  obtain ⟨j2, r3, r4, e2⟩ := (h2.mem d2[j]!).1 ⟨j, q3, q4, rfl⟩
  rw [h1.out j2 (by omega)] at e2
  rw [← e1, ← e2]
  exact h i2 j2 (by omega) r4
/-- The row behind the insertions. -/
structure Insd {α : Type} [Inhabited α] (lt : α → α → Bool) (R : α → α → Prop) (d d2 : Array α) (L : Nat) : Prop where
  seg : Seg d d2 0 L
  few : L ≤ 20 → Sd R d2 0 L
  lo : 20 < L → Sd R d2 0 20
  hi : 20 < L → Sd R d2 20 L
  st : 20 < L → St lt R d2 0 20 L
set_option maxHeartbeats 2000000 in
theorem stab_any {N : Nat} (cf : Fin (N + 1) → Fin (N + 1) → Int) (Rl : Fin (N + 1) → Fin (N + 1) → Prop) (tr : ∀ x y z, Rl x y → Rl y z → Rl x z) (blk off cap : Nat) (d : Array (Fin (N + 1))) (w0 : World) (g : Nat) (cb : Array Value) (eg : ∀ args w, (callFunc g args).run Try.prog w = .ok (.enter g args) w) (hcmp : CmpN g cb cf blk off d.size w0) (R : Row1 eN w0 blk off d) (L : Nat) (hk : d.size = L) (hsz : L ≤ 30) (hlat : Lat (ltOf cf) Rl d L) :
    Calls Try.prog 36 #[.slice (some ⟨blk, off, none⟩) L cap, .int .i64 (L : Int), .func (.func g) #[] cb] w0 (SymQ Rl w0 blk off d 0 L) := by
  have HINS : Hid (∀ (a b : Nat) (dk : Array (Fin (N + 1))) (W : World), a ≤ b → b ≤ L → dk.size = L → SWn w0 blk off dk W → Calls Try.prog 45 #[.slice (some ⟨blk, off, none⟩) L cap, .int .i64 (a : Int), .int .i64 (b : Int), .func (.func g) #[] cb] W fun e w' => e = .returned (.tuple #[]) ∧ SWn w0 blk off (Sort.insertionSort (ltOf cf) dk a b) w') := Lib.hid fun a b dk W q1 q2 q3 q4 => by
    have h := Any.insertionSortCmpFunc_s Try.insN eN cf g cb blk off cap a b d dk w0 W eg hcmp R (hk.trans q3.symm) q4 q1 (by omega) (by omega)
    rw [q3] at h
    exact h
  have HI1 : Hid (L ≤ 30 → Insd (ltOf cf) Rl d (Sort.insertionSort (ltOf cf) d 0 L) L ∨ 20 ≤ L) := Lib.hid fun _ => by
    by_cases q : 20 ≤ L
    · exact .inr q
    · have h := insertion_sd tr 0 L d (Nat.zero_le _) (by omega) fun i j q1 q2 q3 => hlat i j q2 q3
      exact .inl ⟨h.1, fun _ => h.2, fun q => by omega, fun q => by omega, fun q => by omega⟩
  have HI2 : Hid (20 ≤ L → Seg d (Sort.insertionSort (ltOf cf) d 0 20) 0 20 ∧ Sd Rl (Sort.insertionSort (ltOf cf) d 0 20) 0 20) := Lib.hid fun q => insertion_sd tr 0 20 d (Nat.zero_le _) (by omega) fun i j q1 q2 q3 => hlat i j q2 (by omega)
  have HI3 : Hid (∀ dk, 20 ≤ L → Seg d dk 0 20 → Sd Rl dk 0 20 → Insd (ltOf cf) Rl d (Sort.insertionSort (ltOf cf) dk 20 L) L) := Lib.hid fun dk q h1 h2 => by
    have h := insertion_sd tr 20 L dk q (by rw [h1.size]; omega) fun i j q1 q2 q3 => by
      rw [h1.out i (by omega), h1.out j (by omega)]
      exact hlat i j q2 q3
    have e : Sd Rl (Sort.insertionSort (ltOf cf) dk 20 L) 0 20 := h2.same fun k k1 k2 => h.1.out k (by omega)
    exact ⟨(h1.wide (Nat.le_refl _) q).trans (h.1.wide (Nat.zero_le _) (Nat.le_refl _)), fun r => by rw [show L = 20 by omega] at e ⊢; exact e, fun _ => e, fun _ => h.2, fun _ => st_of hlat h1 h.1⟩
  have HSYM : Hid (∀ (d2 : Array (Fin (N + 1))) (W : World), 20 < L → Insd (ltOf cf) Rl d d2 L → SWn w0 blk off d2 W → Calls Try.prog 46 #[.slice (some ⟨blk, off, none⟩) L cap, .int .i64 0, .int .i64 20, .int .i64 (L : Int), .func (.func g) #[] cb] W (SymQ Rl w0 blk off d2 0 L)) := Lib.hid fun d2 W q h1 h2 =>
    sym_any cf Rl tr blk off cap d w0 g cb eg hcmp R L hk (by omega) L 0 20 L d2 W (by omega) (by omega) q (Nat.le_refl _) (h1.seg.size.trans hk) h2 (h1.lo q) (h1.hi q) (h1.st q)
  have HS0 : Hid (SWn w0 blk off d w0) := Lib.hid (SW.start R.hH)
  have HK := Lib.hid hk
  have HEG := Lib.hid eg
  clear hcmp R hk hlat eg tr
  go_enter Try.func36, Try.ntmps36
  go_wp2_with fail
  go_loopw [7, 8] (fun va vb wr => ∃ (a b : Nat) (dk : Array (Fin (N + 1))), va = .int .i64 (a : Int) ∧ vb = .int .i64 (b : Int) ∧ ((a = 0 ∧ b = 20 ∧ dk = d) ∨ (a = 20 ∧ b = 40 ∧ 20 ≤ L ∧ Seg d dk 0 20 ∧ Sd Rl dk 0 20)) ∧ SWn w0 blk off dk wr) (fun _ vb _ => 40 - (intOf vb).toNat)
  case atStart => exact ⟨0, 20, d, rfl, rfl, .inl ⟨rfl, rfl, rfl⟩, HS0.out⟩
  case round =>
    obtain ⟨a, b, dk, rfl, rfl, hst, hS⟩ := hrel
    have HS := Lib.hid hS
    clear hS HS0
    by_cases hgo : b = 20 ∧ 20 ≤ L
    · have HB : Hid (a = 0 ∧ b = 20 ∧ dk = d) := Lib.hid (by
        rcases hst with h | h
        · exact h
        · omega)
      clear hst
      have ea : (a : Int) = 0 := by have := HB.out; omega
      have hb1 : b ≤ 20 := by have := HB.out; omega
      have hb2 : 20 ≤ b := by have := HB.out; omega
      have l1 : (b : Int) ≤ (L : Int) := by omega
      have HC1 := Lib.hid (HINS.out a b dk wr (by omega) (by omega) (by have := HB.out.2.2; rw [this]; exact HK.out) HS.out)
      have HGO := Lib.hid hgo
      have z1 : IntKind.i64.wrap ((b : Int) + 20) = 40 := by rw [IntKind.wrap_i64]; omega
      clear hgo ea
      go_wp2_with (first
        | (go_at_call 45
           refine HC1.out.mono ?_
           rintro e u ⟨rfl, h2⟩
           have HS2 := Lib.hid h2
           clear h2))
      go_roundw
      case rel =>
        refine ⟨20, 40, _, by have := HB.out.2.1; rw [this], rfl, .inr ⟨rfl, rfl, HGO.out.2, ?_⟩, HS2.out⟩
        obtain ⟨e1, e2, e3⟩ := HB.out
        rw [e1, e2, e3]
        exact HI2.out HGO.out.2
      case measure => simp [intOf]; omega
    · have l1 : ¬ (b : Int) ≤ (L : Int) := by rcases hst with h | h <;> omega
      have HC1 := Lib.hid (HINS.out a L dk wr (by rcases hst with h | h <;> omega) (Nat.le_refl _) (by rcases hst with h | h; rw [h.2.2]; exact HK.out; exact h.2.2.2.1.size.trans HK.out) HS.out)
      have HIN : Hid (Insd (ltOf cf) Rl d (Sort.insertionSort (ltOf cf) dk a L) L) := Lib.hid (by
        rcases hst with h | h
        · rw [h.1, h.2.2]
          rcases HI1.out hsz with q | q
          · exact q
          · exact absurd ⟨h.2.1, q⟩ hgo
        · rw [h.1]
          exact HI3.out dk h.2.2.1 h.2.2.2.1 h.2.2.2.2)
      clear hst hgo
      go_wp2_with (first
        | (go_at_call 45
           refine HC1.out.mono ?_
           rintro e u ⟨rfl, h2⟩
           have HS2 := Lib.hid h2
           clear h2 HC1 HS))
      obtain ⟨d2, hd2⟩ : ∃ d2, d2 = Sort.insertionSort (ltOf cf) dk a L := ⟨_, rfl⟩
      rw [← hd2] at HIN HS2
      clear hd2
      go_loopw [6, 7, 8, 9] (fun vs _ _ _ wr => ∃ (q : Nat) (dk : Array (Fin (N + 1))), vs = .int .i64 (q : Int) ∧ ((q = 20 ∧ dk = d2) ∨ (q = 40 ∧ Seg d dk 0 L ∧ Sd Rl dk 0 L)) ∧ SWn w0 blk off dk wr) (fun vs _ _ _ _ => 40 - (intOf vs).toNat)
      case atStart => exact ⟨20, d2, rfl, .inl ⟨rfl, rfl⟩, HS2.out⟩
      case round =>
        obtain ⟨q, dk, rfl, hst, hS⟩ := hrel
        have HS := Lib.hid hS
        clear hS HS2
        by_cases hgo : q = 20 ∧ 20 < L
        · have HB : Hid (q = 20 ∧ dk = d2) := Lib.hid (by
            rcases hst with h | h
            · exact h
            · omega)
          have hq1 : q ≤ 20 := by omega
          have hq2 : 20 ≤ q := by omega
          have l1 : (q : Int) < (L : Int) := by omega
          have l2 : ¬ (40 : Int) ≤ (L : Int) := by omega
          have l3 : (20 : Int) < (L : Int) := by omega
          have z1 : IntKind.i64.wrap (2 * (q : Int)) = 40 := by rw [IntKind.wrap_i64]; omega
          have z2 : IntKind.i64.wrap ((q : Int) * 2) = 40 := by rw [IntKind.wrap_i64]; omega
          have z3 : IntKind.i64.wrap (0 + (q : Int)) = 20 := by rw [IntKind.wrap_i64]; omega
          have z4 : IntKind.i64.wrap (q : Int) = 20 := by rw [IntKind.wrap_i64]; omega
          have HC1 := Lib.hid (HSYM.out dk wr hgo.2 (by have := HB.out.2; rw [this]; exact HIN.out) HS.out)
          have HDK := Lib.hid HB.out.2
          clear hst hgo
          go_wp2_with fail
          go_loopw [7, 8] (fun va vb wq => va = .int .i64 0 ∧ vb = .int .i64 40 ∧ wq = wr) (fun _ _ _ => 0)
          case atStart => exact ⟨rfl, rfl, rfl⟩
          case round =>
            obtain ⟨rfl, rfl, rfl⟩ := hrel
            go_wp2_with (first
              | (go_at_call 46
                 refine HC1.out.mono ?_
                 rintro e u2 ⟨rfl, d3, h1, h2, h3⟩
                 have HQ := Lib.hid (show Seg d2 d3 0 L ∧ Sd Rl d3 0 L ∧ SWn w0 blk off d3 u2 from ⟨by rw [← HDK.out]; exact h1, h2, h3⟩)
                 clear h1 h2 h3))
            go_roundw
            case rel => exact ⟨40, d3, rfl, .inr ⟨rfl, HIN.out.seg.trans HQ.out.1, HQ.out.2.1⟩, HQ.out.2.2⟩
            case measure => simp [intOf]; omega
        · have l1 : ¬ (q : Int) < (L : Int) := by rcases hst with h | h <;> omega
          have HF : Hid (Seg d dk 0 L ∧ Sd Rl dk 0 L) := Lib.hid (by
            rcases hst with h | h
            · rw [h.2]
              exact ⟨HIN.out.seg, HIN.out.few (by omega)⟩
            · exact h.2)
          clear hst hgo
          go_wp2_with fail
          go_end0
          exact ⟨rfl, dk, HF.out.1, HF.out.2, HS.out⟩
end Go.Proofs.Ytfchmmojhfjibaa
