/- Sorting that keeps what is the same in its order: merging in place, the latter part a single one. -/
import Derived.Test.YtfchmmojhfjibaaSyb
namespace Go.Proofs.Ytfchmmojhfjibaa
set_option maxRecDepth 100000
open Go.RowKit Go.Shelf
/-- What is asked of the function that compares: it tells the order of two; it turns nothing. -/
abbrev CmpN {N : Nat} (g : Nat) (cb : Array Value) (cf : Fin (N + 1) → Fin (N + 1) → Int) (blk off size : Nat) (w0 : World) : Prop := CmpLays1 Try.prog g cb (eN (N := N)) cf blk off size w0
set_option maxHeartbeats 1000000 in
theorem sym_up {N : Nat} (cf : Fin (N + 1) → Fin (N + 1) → Int) (Rl : Fin (N + 1) → Fin (N + 1) → Prop) (tr : ∀ x y z, Rl x y → Rl y z → Rl x z) (blk off cap : Nat) (d0 d : Array (Fin (N + 1))) (w0 w : World) (g : Nat) (cb : Array Value) (eg : ∀ args w, (callFunc g args).run Try.prog w = .ok (.enter g args) w) (hcmp : CmpN g cb cf blk off d0.size w0) (R : Row1 eN w0 blk off d0) (hs : d0.size = d.size) (S : SWn w0 blk off d w) (a m b : Nat) (ham : m = a + 1) (hmb : m < b) (hb : b ≤ d.size) (hsz : d.size ≤ 100000) (h2 : Sd Rl d m b) (hst : St (ltOf cf) Rl d a m b) :
    Calls Try.prog 46 #[.slice (some ⟨blk, off, none⟩) d.size cap, .int .i64 (a : Int), .int .i64 (m : Int), .int .i64 (b : Int), .func (.func g) #[] cb] w fun e w' => e = .returned (.tuple #[]) ∧ ∃ d', Seg d d' a b ∧ Sd Rl d' a b ∧ SWn w0 blk off d' w' := by
  have HS0 := Lib.hid S
  have HC := Lib.hid hcmp
  have HSD := Lib.hid h2
  have HST : Hid (∀ h, m ≤ h → h < b → (cf d[h]! d[a]! < 0 → Rl d[h]! d[a]!) ∧ (¬ cf d[h]! d[a]! < 0 → Rl d[a]! d[h]!)) := Lib.hid fun h h1 h2 => by
    have q := hst a h (Nat.le_refl _) (by omega) h1 h2
    unfold ltOf at q
    simpa using q
  obtain ⟨L, hL⟩ : ∃ L, L = d.size := ⟨_, rfl⟩
  rw [← hL] at hb hsz hs ⊢
  have HL := Lib.hid hL
  have z1 : IntKind.i64.wrap ((m : Int) - (a : Int)) = 1 := by rw [IntKind.wrap_i64]; omega
  have HAM := Lib.hid ham
  have hm1 : m ≤ a + 1 := by omega
  have hm2 : a + 1 ≤ m := by omega
  clear S hL hcmp h2 hst ham
  go_enter Try.func46, Try.ntmps46
  go_wp2_with fail
  go_loopw [10, 11, 12] (fun vi vj _ wr => ∃ (i j : Nat), m ≤ i ∧ i ≤ j ∧ j ≤ b ∧ vi = .int .i64 (i : Int) ∧ vj = .int .i64 (j : Int) ∧ (∀ k, m ≤ k → k < i → Rl d[k]! d[a]!) ∧ (∀ k, j ≤ k → k < b → Rl d[a]! d[k]!) ∧ SWn w0 blk off d wr) (fun vi vj _ _ => (intOf vj).toNat - (intOf vi).toNat)
  case atStart => exact ⟨m, b, Nat.le_refl _, by omega, Nat.le_refl _, rfl, rfl, fun k q1 q2 => by omega, fun k q1 q2 => by omega, HS0.out⟩
  case round =>
    obtain ⟨i, j, hmi, hij, hjb, rfl, rfl, hl, hr, hS⟩ := hrel
    have HS := Lib.hid hS
    have HLL := Lib.hid hl
    have HRR := Lib.hid hr
    clear hl hr hS HS0
    have hk : d.size = d0.size := HL.out.symm.trans hs.symm
    by_cases hlt : i < j
    · have l1 : (i : Int) < (j : Int) := by omega
      have h0 : (0 : Int) ≤ ((i : Int) + (j : Int)) / 2 := by omega
      have h1 : ((i : Int) + (j : Int)) / 2 < (L : Int) := by omega
      obtain ⟨h, hh⟩ : ∃ h, h = (i + j) / 2 := ⟨_, rfl⟩
      have h3 : ((i : Int) + (j : Int)) / 2 = (h : Int) := by omega
      rw [h3] at h0 h1
      have h2 : ((h : Int)).toNat = h := by omega
      have hb1 : m ≤ h ∧ h < b ∧ i ≤ h ∧ h < j := by omega
      have HBB := Lib.hid hb1
      have a0 : (0 : Int) ≤ (a : Int) := by omega
      have a1 : (a : Int) < (L : Int) := by omega
      have a2 : ((a : Int)).toNat = a := by omega
      have cx := fun n os => HS.out.cl R hk h (by omega) n os
      have cy := fun n os => HS.out.cl R hk a (by omega) n os
      have hc := HS.out.cmp HC.out hk d[h]! d[a]!
      have HQ := Lib.hid (HST.out h hb1.1 hb1.2.1)
      obtain ⟨x, hx⟩ : ∃ x, x = d[h]! := ⟨_, rfl⟩
      obtain ⟨y, hy⟩ : ∃ y, y = d[a]! := ⟨_, rfl⟩
      rw [← hx] at cx hc HQ
      rw [← hy] at cy hc HQ
      have HXY := Lib.hid (show x = d[h]! ∧ y = d[a]! from ⟨hx, hy⟩)
      unfold eN at cx cy hc
      obtain ⟨r, hr⟩ : ∃ r, r = cf x y := ⟨_, rfl⟩
      rw [← hr] at hc HQ
      clear hx hy hr hh hb1
      have mixed : Try.prog.follows Departure.mixedOrders = true := by kernel_rfl
      by_cases hq : r < 0
      · have hd : decide (r < 0) = true := decide_eq_true hq
        have HRX := Lib.hid (HQ.out.1 hq)
        go_wp2_with fail
        go_quiet_grown (first | (go_at_fn g; refine Calls.grown_of (hc _ _)))
        have S2 : Hid (SWn w0 blk off d (Sort.grow (wr.drewN nq) osq)) := Lib.hid (HS.out.grown nq osq)
        clear cx cy hc HS
        generalize Sort.grow (wr.drewN nq) osq = w2 at S2 ⊢
        clear nq osq
        go_wp2_with fail
        go_roundw
        case rel =>
          refine ⟨h + 1, j, by omega, by omega, hjb, by go_num, rfl, fun k k1 k2 => ?_, HRR.out, S2.out⟩
          have hx := HXY.out
          have hrx := HRX.out
          rcases (show k < h ∨ k = h by omega) with q | rfl
          · rw [hx.1, hx.2] at hrx
            exact tr _ _ _ (HSD.out k h k1 q HBB.out.2.1) hrx
          · rw [← hx.1, ← hx.2]
            exact hrx
        case measure => simp [intOf]; omega
      · have hd : decide (r < 0) = false := decide_eq_false hq
        have HRX := Lib.hid (HQ.out.2 (by omega))
        go_wp2_with fail
        go_quiet_grown (first | (go_at_fn g; refine Calls.grown_of (hc _ _)))
        have S2 : Hid (SWn w0 blk off d (Sort.grow (wr.drewN nq) osq)) := Lib.hid (HS.out.grown nq osq)
        clear cx cy hc HS
        generalize Sort.grow (wr.drewN nq) osq = w2 at S2 ⊢
        clear nq osq
        go_wp2_with fail
        go_roundw
        case rel =>
          refine ⟨i, h, hmi, by omega, by omega, rfl, by go_num, HLL.out, fun k k1 k2 => ?_, S2.out⟩
          have hx := HXY.out
          have hrx := HRX.out
          rcases (show h < k ∨ k = h by omega) with q | rfl
          · rw [hx.1, hx.2] at hrx
            exact tr _ _ _ hrx (HSD.out h k HBB.out.1 q k2)
          · rw [← hx.1, ← hx.2]
            exact hrx
        case measure => simp [intOf]; omega
    · obtain rfl : i = j := by omega
      obtain ⟨e, he⟩ : ∃ e, e + 1 = i := ⟨i - 1, by omega⟩
      have z2 : IntKind.i64.wrap ((i : Int) - 1) = (e : Int) := by rw [IntKind.wrap_i64]; omega
      have HEI := Lib.hid he
      have he1 : a ≤ e ∧ e + 1 ≤ b := by omega
      clear he hmi hij
      go_wp2_with fail
      go_loopw [13] (fun vk wq => ∃ (k : Nat) (dk : Array (Fin (N + 1))), a ≤ k ∧ k ≤ e ∧ vk = .int .i64 (k : Int) ∧ Rot d dk a (a + 1) (k + 1) ∧ SWn w0 blk off dk wq) (fun vk _ => e - (intOf vk).toNat)
      case atStart => exact ⟨a, d, Nat.le_refl _, he1.1, rfl, rot_up0 _ _, HS.out⟩
      case round =>
        obtain ⟨k, dk, hak, hke, rfl, hrot, hS⟩ := hrel
        have HK := Lib.hid hS
        have HRO := Lib.hid hrot
        have hkd : dk.size = d0.size := hrot.size.trans hk
        clear hrot hS HS
        by_cases hlt : k < e
        · have l1 : (k : Int) < (e : Int) := by omega
          obtain ⟨q, hq⟩ : ∃ q, q = k + 1 := ⟨_, rfl⟩
          have z1 : IntKind.i64.wrap ((k : Int) + 1) = (q : Int) := by rw [IntKind.wrap_i64]; omega
          have p0 : (0 : Int) ≤ (k : Int) := by omega
          have p1 : (k : Int) < (L : Int) := by omega
          have p2 : ((k : Int)).toNat = k := by omega
          have q0 : (0 : Int) ≤ (q : Int) := by omega
          have q1 : (q : Int) < (L : Int) := by omega
          have q2 : ((q : Int)).toNat = q := by omega
          have ca := HK.out.c1 R hkd k (by omega)
          have cb' := HK.out.c1 R hkd q (by omega)
          have fa := HK.out.f1 R hkd k (by omega)
          have fb := HK.out.f1 R hkd q (by omega)
          obtain ⟨u, cc⟩ := HK.out.c2 R hkd k q (by omega) (by omega) (eN dk[q]!)
          have S3 : Hid (SWn w0 blk off (Sort.swp dk k q) ((wr.setCell ⟨blk, off + k, none⟩ (eN dk[q]!)).setCell ⟨blk, off + q, none⟩ (eN dk[k]!)).drew) := Lib.hid (HK.out.swapped R k q (by omega) (by omega))
          have W3 : Hid (Rot d (Sort.swp dk k q) a (a + 1) (q + 1)) := Lib.hid (by rw [hq]; exact rot_up HRO.out hak (by omega))
          obtain ⟨x, hx⟩ : ∃ x, x = dk[k]! := ⟨_, rfl⟩
          obtain ⟨y, hy⟩ : ∃ y, y = dk[q]! := ⟨_, rfl⟩
          rw [← hx] at ca S3
          rw [← hy] at cb' cc S3
          unfold eN at ca cb' cc S3
          have HQK := Lib.hid hq
          clear hx hy HK HRO hkd hq
          have mixed : Try.prog.follows Departure.mixedOrders = true := by kernel_rfl
          go_wp2_with fail
          go_big_region_o
          clear ca cb' cc fa fb
          generalize ((wr.setCell ⟨blk, off + k, none⟩ (.int .i64 (y.val : Int))).setCell ⟨blk, off + q, none⟩ (.int .i64 (x.val : Int))).drew = w3 at S3 ⊢
          go_wp2_with fail
          go_roundw
          case rel => exact ⟨q, _, by have := HQK.out; omega, by have := HQK.out; omega, by first | rfl | go_num, W3.out, S3.out⟩
          case measure => have := HQK.out; simp [intOf]; omega
        · obtain rfl : k = e := by omega
          have l1 : ¬ (k : Int) < (k : Int) := by omega
          go_wp2_with fail
          refine bodyPost_ret (results_none rfl _ _ _) rfl ?_
          have hei := HEI.out
          have h := put_up tr (HAM.out ▸ HSD.out) (by omega) (show k + 1 ≤ b by omega) (fun x q1 q2 => HLL.out x (by omega) (by omega)) (fun x q1 q2 => HRR.out x (by omega) q2) HRO.out
          exact ⟨rfl, dk, h.1, h.2, HK.out⟩
end Go.Proofs.Ytfchmmojhfjibaa
namespace Go.Proofs.Ytfchmmojhfjibaa
set_option maxRecDepth 100000
open Go.RowKit Go.Shelf
set_option maxHeartbeats 1000000 in
theorem sym_down {N : Nat} (cf : Fin (N + 1) → Fin (N + 1) → Int) (Rl : Fin (N + 1) → Fin (N + 1) → Prop) (tr : ∀ x y z, Rl x y → Rl y z → Rl x z) (blk off cap : Nat) (d0 d : Array (Fin (N + 1))) (w0 w : World) (g : Nat) (cb : Array Value) (eg : ∀ args w, (callFunc g args).run Try.prog w = .ok (.enter g args) w) (hcmp : CmpN g cb cf blk off d0.size w0) (R : Row1 eN w0 blk off d0) (hs : d0.size = d.size) (S : SWn w0 blk off d w) (a m b : Nat) (ham : a + 1 < m) (hmb : b = m + 1) (hb : b ≤ d.size) (hsz : d.size ≤ 100000) (h2 : Sd Rl d a m) (hst : St (ltOf cf) Rl d a m b) :
    Calls Try.prog 46 #[.slice (some ⟨blk, off, none⟩) d.size cap, .int .i64 (a : Int), .int .i64 (m : Int), .int .i64 (b : Int), .func (.func g) #[] cb] w fun e w' => e = .returned (.tuple #[]) ∧ ∃ d', Seg d d' a b ∧ Sd Rl d' a b ∧ SWn w0 blk off d' w' := by
  have HS0 := Lib.hid S
  have HC := Lib.hid hcmp
  have HSD := Lib.hid h2
  have HST : Hid (∀ h, a ≤ h → h < m → (cf d[m]! d[h]! < 0 → Rl d[m]! d[h]!) ∧ (¬ cf d[m]! d[h]! < 0 → Rl d[h]! d[m]!)) := Lib.hid fun h h1 h2 => by
    have q := hst h m h1 h2 (Nat.le_refl _) (by omega)
    unfold ltOf at q
    simpa using q
  obtain ⟨L, hL⟩ : ∃ L, L = d.size := ⟨_, rfl⟩
  rw [← hL] at hb hsz hs ⊢
  have HL := Lib.hid hL
  obtain ⟨v, hv⟩ : ∃ v, v = m - a := ⟨_, rfl⟩
  have z1 : IntKind.i64.wrap ((m : Int) - (a : Int)) = (v : Int) := by rw [IntKind.wrap_i64]; omega
  have z0 : ¬ (v : Int) = 1 := by omega
  have z3 : IntKind.i64.wrap ((b : Int) - (m : Int)) = 1 := by rw [IntKind.wrap_i64]; omega
  have HAM := Lib.hid hmb
  have hm1 : m + 1 ≤ b := by omega
  have hm2 : b ≤ m + 1 := by omega
  clear S hL hcmp h2 hst hmb hv
  go_enter Try.func46, Try.ntmps46
  go_wp2_with fail
  go_loopw [14, 15, 16] (fun vi vj _ wr => ∃ (i j : Nat), a ≤ i ∧ i ≤ j ∧ j ≤ m ∧ vi = .int .i64 (i : Int) ∧ vj = .int .i64 (j : Int) ∧ (∀ k, a ≤ k → k < i → Rl d[k]! d[m]!) ∧ (∀ k, j ≤ k → k < m → Rl d[m]! d[k]!) ∧ SWn w0 blk off d wr) (fun vi vj _ _ => (intOf vj).toNat - (intOf vi).toNat)
  case atStart => exact ⟨a, m, Nat.le_refl _, by omega, Nat.le_refl _, rfl, rfl, fun k q1 q2 => by omega, fun k q1 q2 => by omega, HS0.out⟩
  case round =>
    obtain ⟨i, j, hmi, hij, hjb, rfl, rfl, hl, hr, hS⟩ := hrel
    have HS := Lib.hid hS
    have HLL := Lib.hid hl
    have HRR := Lib.hid hr
    clear hl hr hS HS0
    have hk : d.size = d0.size := HL.out.symm.trans hs.symm
    by_cases hlt : i < j
    · have l1 : (i : Int) < (j : Int) := by omega
      have h0 : (0 : Int) ≤ ((i : Int) + (j : Int)) / 2 := by omega
      have h1 : ((i : Int) + (j : Int)) / 2 < (L : Int) := by omega
      obtain ⟨h, hh⟩ : ∃ h, h = (i + j) / 2 := ⟨_, rfl⟩
      have h3 : ((i : Int) + (j : Int)) / 2 = (h : Int) := by omega
      rw [h3] at h0 h1
      have h2 : ((h : Int)).toNat = h := by omega
      have hb1 : a ≤ h ∧ h < m ∧ i ≤ h ∧ h < j := by omega
      have HBB := Lib.hid hb1
      have a0 : (0 : Int) ≤ (m : Int) := by omega
      have a1 : (m : Int) < (L : Int) := by omega
      have a2 : ((m : Int)).toNat = m := by omega
      have cx := fun n os => HS.out.cl R hk m (by omega) n os
      have cy := fun n os => HS.out.cl R hk h (by omega) n os
      have hc := HS.out.cmp HC.out hk d[m]! d[h]!
      have HQ := Lib.hid (HST.out h hb1.1 hb1.2.1)
      obtain ⟨x, hx⟩ : ∃ x, x = d[m]! := ⟨_, rfl⟩
      obtain ⟨y, hy⟩ : ∃ y, y = d[h]! := ⟨_, rfl⟩
      rw [← hx] at cx hc HQ
      rw [← hy] at cy hc HQ
      have HXY := Lib.hid (show x = d[m]! ∧ y = d[h]! from ⟨hx, hy⟩)
      unfold eN at cx cy hc
      obtain ⟨r, hr⟩ : ∃ r, r = cf x y := ⟨_, rfl⟩
      rw [← hr] at hc HQ
      clear hx hy hr hh hb1
      have mixed : Try.prog.follows Departure.mixedOrders = true := by kernel_rfl
      by_cases hq : r < 0
      · have hd : decide (r < 0) = true := decide_eq_true hq
        have HRX := Lib.hid (HQ.out.1 hq)
        go_wp2_with fail
        go_quiet_grown (first | (go_at_fn g; refine Calls.grown_of (hc _ _)))
        have S2 : Hid (SWn w0 blk off d (Sort.grow (wr.drewN nq) osq)) := Lib.hid (HS.out.grown nq osq)
        clear cx cy hc HS
        generalize Sort.grow (wr.drewN nq) osq = w2 at S2 ⊢
        clear nq osq
        go_wp2_with fail
        go_roundw
        case rel =>
          refine ⟨i, h, hmi, by omega, by omega, rfl, by go_num, HLL.out, fun k k1 k2 => ?_, S2.out⟩
          have hx := HXY.out
          have hrx := HRX.out
          rcases (show h < k ∨ k = h by omega) with q | rfl
          · rw [hx.1, hx.2] at hrx
            exact tr _ _ _ hrx (HSD.out h k HBB.out.1 q k2)
          · rw [← hx.1, ← hx.2]
            exact hrx
        case measure => simp [intOf]; omega
      · have hd : decide (r < 0) = false := decide_eq_false hq
        have HRX := Lib.hid (HQ.out.2 (by omega))
        go_wp2_with fail
        go_quiet_grown (first | (go_at_fn g; refine Calls.grown_of (hc _ _)))
        have S2 : Hid (SWn w0 blk off d (Sort.grow (wr.drewN nq) osq)) := Lib.hid (HS.out.grown nq osq)
        clear cx cy hc HS
        generalize Sort.grow (wr.drewN nq) osq = w2 at S2 ⊢
        clear nq osq
        go_wp2_with fail
        go_roundw
        case rel =>
          refine ⟨h + 1, j, by omega, by omega, hjb, by go_num, rfl, fun k k1 k2 => ?_, HRR.out, S2.out⟩
          have hx := HXY.out
          have hrx := HRX.out
          rcases (show k < h ∨ k = h by omega) with q | rfl
          · rw [hx.1, hx.2] at hrx
            exact tr _ _ _ (HSD.out k h k1 q HBB.out.2.1) hrx
          · rw [← hx.1, ← hx.2]
            exact hrx
        case measure => simp [intOf]; omega
    · obtain rfl : i = j := by omega
      have hai : a ≤ i ∧ i ≤ m := by omega
      have HAI := Lib.hid hai
      clear hmi hij hjb
      go_wp2_with fail
      go_loopw [17] (fun vk wq => ∃ (k : Nat) (dk : Array (Fin (N + 1))), i ≤ k ∧ k ≤ m ∧ vk = .int .i64 (k : Int) ∧ Rot d dk k m (m + 1) ∧ SWn w0 blk off dk wq) (fun vk _ => (intOf vk).toNat - i)
      case atStart => exact ⟨m, d, hai.2, Nat.le_refl _, rfl, rot_down0 _ _, HS.out⟩
      case round =>
        obtain ⟨k, dk, hak, hke, rfl, hrot, hS⟩ := hrel
        have HK := Lib.hid hS
        have HRO := Lib.hid hrot
        have hkd : dk.size = d0.size := hrot.size.trans hk
        clear hrot hS HS
        by_cases hlt : i < k
        · have l1 : (i : Int) < (k : Int) := by omega
          obtain ⟨q, hq⟩ : ∃ q, k = q + 1 := ⟨k - 1, by omega⟩
          have z1 : IntKind.i64.wrap ((k : Int) - 1) = (q : Int) := by rw [IntKind.wrap_i64]; omega
          have p0 : (0 : Int) ≤ (k : Int) := by omega
          have p1 : (k : Int) < (L : Int) := by omega
          have p2 : ((k : Int)).toNat = k := by omega
          have q0 : (0 : Int) ≤ (q : Int) := by omega
          have q1 : (q : Int) < (L : Int) := by omega
          have q2 : ((q : Int)).toNat = q := by omega
          have ca := HK.out.c1 R hkd k (by omega)
          have cb' := HK.out.c1 R hkd q (by omega)
          have fa := HK.out.f1 R hkd k (by omega)
          have fb := HK.out.f1 R hkd q (by omega)
          obtain ⟨u, cc⟩ := HK.out.c2 R hkd k q (by omega) (by omega) (eN dk[q]!)
          have S3 : Hid (SWn w0 blk off (Sort.swp dk k q) ((wr.setCell ⟨blk, off + k, none⟩ (eN dk[q]!)).setCell ⟨blk, off + q, none⟩ (eN dk[k]!)).drew) := Lib.hid (HK.out.swapped R k q (by omega) (by omega))
          have W3 : Hid (Rot d (Sort.swp dk k q) q m (m + 1)) := Lib.hid (by
            have h := HRO.out
            rw [hq] at h ⊢
            exact rot_down h (by omega) (by rw [← HL.out]; omega))
          obtain ⟨x, hx⟩ : ∃ x, x = dk[k]! := ⟨_, rfl⟩
          obtain ⟨y, hy⟩ : ∃ y, y = dk[q]! := ⟨_, rfl⟩
          rw [← hx] at ca S3
          rw [← hy] at cb' cc S3
          unfold eN at ca cb' cc S3
          have HQK := Lib.hid hq
          clear hx hy HK HRO hkd hq
          have mixed : Try.prog.follows Departure.mixedOrders = true := by kernel_rfl
          go_wp2_with fail
          go_big_region_o
          clear ca cb' cc fa fb
          generalize ((wr.setCell ⟨blk, off + k, none⟩ (.int .i64 (y.val : Int))).setCell ⟨blk, off + q, none⟩ (.int .i64 (x.val : Int))).drew = w3 at S3 ⊢
          go_wp2_with fail
          go_roundw
          case rel => exact ⟨q, _, by have := HQK.out; omega, by have := HQK.out; omega, by first | rfl | go_num, W3.out, S3.out⟩
          case measure => have := HQK.out; simp [intOf]; omega
        · obtain rfl : k = i := by omega
          have l1 : ¬ (k : Int) < (k : Int) := by omega
          go_wp2_with fail
          refine bodyPost_ret (results_none rfl _ _ _) rfl ?_
          have h := put_down HSD.out HAI.out.1 HAI.out.2 HLL.out HRR.out HRO.out
          rw [← HAM.out] at h
          exact ⟨rfl, dk, h.1, h.2, HK.out⟩
end Go.Proofs.Ytfchmmojhfjibaa
