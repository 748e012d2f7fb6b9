/- Sorting that keeps what is the same in its order: merging in place. -/
import Derived.Deep.CutRange
import Derived.Deep.CutBlock
import Derived.Test.YtfchmmojhfjibaaSyd
namespace Go.Proofs.Ytfchmmojhfjibaa
set_option maxRecDepth 100000
open Go.RowKit Go.Shelf
theorem rot_none {α : Type} [Inhabited α] {d : Array α} {s m e : Nat} (h1 : s ≤ m) (h2 : m ≤ e) (h : ¬ (s < m ∧ m < e)) : Rot d d s m e := ⟨rfl, fun k => by
  unfold rotV
  rcases (show s = m ∨ m = e by omega) with rfl | rfl
  · by_cases q : s ≤ k ∧ k < s + (e - s)
    · rw [if_pos q, Nat.sub_self, Nat.add_zero]
    · rw [if_neg q, if_neg (by omega)]
  · by_cases q : s + (m - m) ≤ k ∧ k < m
    · rw [if_neg (by omega), if_pos q, Nat.sub_self, Nat.sub_zero]
    · rw [if_neg (by omega), if_neg q]⟩
/-- Where the search goes, and what it tells. -/
structure Bnd2 (a m b mid n lo hi : Nat) : Prop where
  le : lo ≤ hi
  lom : hi ≤ m
  alo : a ≤ lo
  nlo : n ≤ lo + b
  nhi : m + hi ≤ n
  atlo : lo = a ∨ n = lo + b
  athi : hi = m ∨ n = hi + m
  nn : n = mid + m
theorem bnd2_of (a m b : Nat) (h1 : a < m) (h2 : m < b) : ∃ lo hi, Bnd2 a m b ((a + b) / 2) ((a + b) / 2 + m) lo hi ∧ (((a + b) / 2 < m ∧ lo + b = (a + b) / 2 + m ∧ hi = (a + b) / 2) ∨ (m ≤ (a + b) / 2 ∧ lo = a ∧ hi = m)) := by
  obtain ⟨mid, hm⟩ : ∃ mid, mid = (a + b) / 2 := ⟨_, rfl⟩
  rw [← hm]
  by_cases h : mid < m
  · exact ⟨mid + m - b, mid, ⟨by omega, by omega, by omega, by omega, by omega, by omega, by omega, rfl⟩, .inl ⟨h, by omega, rfl⟩⟩
  · exact ⟨a, m, ⟨by omega, by omega, by omega, by omega, by omega, by omega, by omega, rfl⟩, .inr ⟨by omega, rfl, rfl⟩⟩
theorem cut_of {α : Type} [Inhabited α] {R : α → α → Prop} (tr : ∀ x y z, R x y → R y z → R x z) {d : Array α} {a m b mid n lo hi s e : Nat} (hb : Bnd2 a m b mid n lo hi) (h1 : Sd R d a m) (h2 : Sd R d m b) (hs1 : lo ≤ s) (hs2 : s ≤ hi) (he : n = s + e) (hl : s = lo ∨ R d[s - 1]! d[n - s]!) (hr : s = hi ∨ R d[n - 1 - s]! d[s]!) : Cut R d a m b s e := by
  obtain ⟨b1, b2, b3, b4, b5, b6, b7, b8⟩ := hb
  refine ⟨by omega, by omega, by omega, by omega, fun i j q1 q2 q3 q4 => ?_, fun i j q1 q2 q3 q4 => ?_⟩
  · rcases hl with hl | hl
    · omega
    · rw [show n - s = e by omega] at hl
      have t1 : R d[i]! d[e]! := by
        rcases (show i < s - 1 ∨ i = s - 1 by omega) with r | r
        · exact tr _ _ _ (h1 i (s - 1) q1 r (by omega)) hl
        · rw [r]; exact hl
      rcases (show e < j ∨ j = e by omega) with r | r
      · exact tr _ _ _ t1 (h2 e j (by omega) r q4)
      · rw [r]; exact t1
  · rcases hr with hr | hr
    · omega
    · rw [show n - 1 - s = e - 1 by omega] at hr
      have t1 : R d[i]! d[s]! := by
        rcases (show i < e - 1 ∨ i = e - 1 by omega) with r | r
        · exact tr _ _ _ (h2 i (e - 1) q1 r (by omega)) hr
        · rw [r]; exact hr
      rcases (show s < j ∨ j = s by omega) with r | r
      · exact tr _ _ _ t1 (h1 s j (by omega) r q4)
      · rw [r]; exact t1
/-- The call of a part. -/
def SymQ {N : Nat} (Rl : Fin (N + 1) → Fin (N + 1) → Prop) (w0 : World) (blk off : Nat) (d : Array (Fin (N + 1))) (a b : Nat) : Ending → World → Prop := fun e w' => e = .returned (.tuple #[]) ∧ ∃ d', Seg d d' a b ∧ Sd Rl d' a b ∧ SWn w0 blk off d' w'
set_option maxHeartbeats 2000000 in
theorem sym_main {N : Nat} (cf : Fin (N + 1) → Fin (N + 1) → Int) (Rl : Fin (N + 1) → Fin (N + 1) → Prop) (tr : ∀ x y z, Rl x y → Rl y z → Rl x z) (blk off cap : Nat) (d0 d : Array (Fin (N + 1))) (w0 w : World) (g : Nat) (cb : Array Value) (eg : ∀ args w, (callFunc g args).run Try.prog w = .ok (.enter g args) w) (hcmp : CmpN g cb cf blk off d0.size w0) (R : Row1 eN w0 blk off d0) (L : Nat) (hs : d0.size = L) (hk : d.size = L) (S : SWn w0 blk off d w) (a m b : Nat) (ham : a + 1 < m) (hmb : m + 1 < b) (hb : b ≤ L) (hsz : L ≤ 100000) (h1 : Sd Rl d a m) (h2 : Sd Rl d m b) (hst : St (ltOf cf) Rl d a m b)
    (ih : ∀ (x y z : Nat) (dk : Array (Fin (N + 1))) (W : World), z - x < b - a → x < y → y < z → z ≤ L → dk.size = L → SWn w0 blk off dk W → Sd Rl dk x y → Sd Rl dk y z → St (ltOf cf) Rl dk x y z → Calls Try.prog 46 #[.slice (some ⟨blk, off, none⟩) L cap, .int .i64 (x : Int), .int .i64 (y : Int), .int .i64 (z : Int), .func (.func g) #[] cb] W (SymQ Rl w0 blk off dk x z)) :
    Calls Try.prog 46 #[.slice (some ⟨blk, off, none⟩) L cap, .int .i64 (a : Int), .int .i64 (m : Int), .int .i64 (b : Int), .func (.func g) #[] cb] w (SymQ Rl w0 blk off d a b) := by
  have HS0 := Lib.hid S
  have HC := Lib.hid hcmp
  have HIH := Lib.hid ih
  obtain ⟨lo, hi, hB, hz⟩ := bnd2_of a m b (by omega) (by omega)
  obtain ⟨mid, hmid⟩ : ∃ mid, mid = (a + b) / 2 := ⟨_, rfl⟩
  rw [← hmid] at hB hz
  obtain ⟨n, hn⟩ : ∃ n, n = mid + m := ⟨_, rfl⟩
  rw [← hn] at hB hz
  have HB := Lib.hid hB
  obtain ⟨b1, b2, b3, b4, b5, -, -, -⟩ := hB
  have HCUT : Hid (∀ s e, lo ≤ s → s ≤ hi → n = s + e → (s = lo ∨ Rl d[s - 1]! d[n - s]!) → (s = hi ∨ Rl d[n - 1 - s]! d[s]!) → Cut Rl d a m b s e) := Lib.hid fun s e q1 q2 q3 q4 q5 => cut_of tr HB.out h1 h2 q1 q2 q3 q4 q5
  have HTWO : Hid (∀ s e d', Cut Rl d a m b s e → n = s + e → Rot d d' s m e → Two (ltOf cf) Rl d d' a s mid e b) := Lib.hid fun s e d' q1 q2 q3 => two_of h1 h2 hst q1 (by omega) q3
  have HST : Hid (∀ c p, a ≤ c → c < m → m ≤ p → p < b → (cf d[p]! d[c]! < 0 → Rl d[p]! d[c]!) ∧ (¬ cf d[p]! d[c]! < 0 → Rl d[c]! d[p]!)) := Lib.hid fun c p q1 q2 q3 q4 => by
    have q := hst c p q1 q2 q3 q4
    unfold ltOf at q
    simpa using q
  have HROT : Hid (∀ s e W, s < m → m < e → e ≤ b → SWn w0 blk off d W → Calls Try.prog 54 #[.slice (some ⟨blk, off, none⟩) L cap, .int .i64 (s : Int), .int .i64 (m : Int), .int .i64 (e : Int), .func (.func g) #[] cb] W fun e' w' => e' = .returned (.tuple #[]) ∧ ∃ d', Rot d d' s m e ∧ SWn w0 blk off d' w') := Lib.hid fun s e W q1 q2 q3 q4 => by
    have h := rota_any blk off cap d0 d w0 W g cb R (hs.trans hk.symm) q4 s m e q1 q2 (by omega) (by omega)
    rw [hk] at h
    exact h
  have z1 : IntKind.i64.wrap ((m : Int) - (a : Int)) = ((m : Int) - (a : Int)) := by rw [IntKind.wrap_i64]; omega
  have z2 : IntKind.i64.wrap ((b : Int) - (m : Int)) = ((b : Int) - (m : Int)) := by rw [IntKind.wrap_i64]; omega
  have y1 : ¬ ((m : Int) - (a : Int)) = 1 := by omega
  have y2 : ¬ ((b : Int) - (m : Int)) = 1 := by omega
  have y1b : ((m : Int) - (a : Int) == 1) = false := by rw [beq_eq_false_iff_ne]; exact y1
  have y2b : ((b : Int) - (m : Int) == 1) = false := by rw [beq_eq_false_iff_ne]; exact y2
  have z3 : ((a : Int) + (b : Int)) / 2 = (mid : Int) := by omega
  have z4 : IntKind.i64.wrap ((mid : Int) + (m : Int)) = (n : Int) := by rw [IntKind.wrap_i64]; omega
  obtain ⟨p, hp⟩ : ∃ p, n = p + 1 := ⟨n - 1, by omega⟩
  have z5 : IntKind.i64.wrap ((n : Int) - 1) = (p : Int) := by rw [IntKind.wrap_i64]; omega
  have HNB : Hid (n ≤ 200000 ∧ p ≤ 200000 ∧ mid ≤ 100000 ∧ 0 < n ∧ b ≤ L ∧ L ≤ 100000) := Lib.hid (by omega)
  have HN := Lib.hid (show n = mid + m ∧ n = p + 1 ∧ mid = (a + b) / 2 from ⟨hn, hp, hmid⟩)
  clear S hcmp h1 h2 hst ih hn hp hmid
  go_enter Try.func46, Try.ntmps46
  go_upto_if 140 with fail
  clear z3 hb hsz
  have HZ := Lib.hid hz
  clear hz
  go_cut [20, 21] from 135 to 219 (fun v20 v21 wx => v20 = .int .i64 (lo : Int) ∧ v21 = .int .i64 (hi : Int) ∧ wx = w)
  case first =>
    rcases HZ.out with ⟨q1, q2, q3⟩ | ⟨q1, q2, q3⟩
    · have y3 : (mid : Int) < (m : Int) := by omega
      have z6 : IntKind.i64.wrap ((n : Int) - (b : Int)) = (lo : Int) := by have := HNB.out; rw [IntKind.wrap_i64]; omega
      have HEQ := Lib.hid q3
      clear q1 q2 q3
      go_wp2_with fail
      go_meet
      exact ⟨rfl, by rw [HEQ.out], rfl⟩
    · have y3 : ¬ (mid : Int) < (m : Int) := by omega
      have HEQ := Lib.hid (show lo = a ∧ hi = m from ⟨q2, q3⟩)
      clear q1 q2 q3
      go_wp2_with fail
      go_meet
      exact ⟨by rw [HEQ.out.1], by rw [HEQ.out.2], rfl⟩
  case rest =>
    obtain ⟨rfl, rfl, hww⟩ := hcut
    have hww := hww.symm
    subst hww
    go_wp2_with fail
    go_loopw [20, 21, 23] (fun vi vj _ wr => ∃ (i j : Nat), lo ≤ i ∧ i ≤ j ∧ j ≤ hi ∧ vi = .int .i64 (i : Int) ∧ vj = .int .i64 (j : Int) ∧ (i = lo ∨ Rl d[i - 1]! d[n - i]!) ∧ (j = hi ∨ Rl d[n - 1 - j]! d[j]!) ∧ SWn w0 blk off d wr) (fun vi vj _ _ => (intOf vj).toNat - (intOf vi).toNat)
    case atStart => exact ⟨lo, hi, Nat.le_refl _, b1, Nat.le_refl _, rfl, rfl, .inl rfl, .inl rfl, HS0.out⟩
    case round =>
      obtain ⟨i, j, hmi, hij, hjb, rfl, rfl, hl, hr, hS⟩ := hrel
      have HS := Lib.hid hS
      have HLL := Lib.hid hl
      have HRR := Lib.hid hr
      clear hl hr hS HS0 z4 z5
      have hb := HNB.out.2.2.2.2.1
      have hsz := HNB.out.2.2.2.2.2
      by_cases hlt : i < j
      · have l1 : (i : Int) < (j : Int) := by omega
        have h0 : (0 : Int) ≤ ((i : Int) + (j : Int)) / 2 := by omega
        have h1 : ((i : Int) + (j : Int)) / 2 < (L : Int) := by omega
        obtain ⟨h, hh⟩ : ∃ h, h = (i + j) / 2 := ⟨_, rfl⟩
        have h3 : ((i : Int) + (j : Int)) / 2 = (h : Int) := by omega
        rw [h3] at h0 h1
        have h2 : ((h : Int)).toNat = h := by omega
        have hpn := HN.out
        obtain ⟨v, hv⟩ : ∃ v, v = p - h := ⟨_, rfl⟩
        have hb1 : lo ≤ h ∧ h < hi ∧ i ≤ h ∧ h < j ∧ m ≤ v ∧ v < b ∧ v = n - 1 - h := by omega
        have HBB := Lib.hid hb1
        have z5 : IntKind.i64.wrap ((p : Int) - (h : Int)) = (v : Int) := by rw [IntKind.wrap_i64]; omega
        have v0 : (0 : Int) ≤ (v : Int) := by omega
        have v1 : (v : Int) < (L : Int) := by omega
        have v2 : ((v : Int)).toNat = v := by omega
        have hk0 : d.size = d0.size := hk.trans hs.symm
        have cx := fun n os => HS.out.cl R hk0 v (by omega) n os
        have cy := fun n os => HS.out.cl R hk0 h (by omega) n os
        have hc := HS.out.cmp HC.out hk0 d[v]! d[h]!
        have HQ := Lib.hid (HST.out h v (by omega) (by omega) (by omega) (by omega))
        obtain ⟨x, hx⟩ : ∃ x, x = d[v]! := ⟨_, rfl⟩
        obtain ⟨y, hy⟩ : ∃ y, y = d[h]! := ⟨_, rfl⟩
        rw [← hx] at cx hc HQ
        rw [← hy] at cy hc HQ
        have HXY := Lib.hid (show x = d[v]! ∧ y = d[h]! from ⟨hx, hy⟩)
        unfold eN at cx cy hc
        obtain ⟨r, hr⟩ : ∃ r, r = cf x y := ⟨_, rfl⟩
        rw [← hr] at hc HQ
        clear hx hy hr hh hb1 hpn hv hk0
        have mixed : Try.prog.follows Departure.mixedOrders = true := by kernel_rfl
        by_cases hq : r < 0
        · have hd : decide (r < 0) = true := decide_eq_true hq
          have HRX := Lib.hid (HQ.out.1 hq)
          go_wp2_with fail
          go_quiet_grown (first | (go_at_fn g; refine Calls.grown_of (hc _ _)))
          have S2 : Hid (SWn w0 blk off d (Sort.grow (wr.drewN nq) osq)) := Lib.hid (HS.out.grown nq osq)
          clear cx cy hc HS
          generalize Sort.grow (wr.drewN nq) osq = w2 at S2 ⊢
          clear nq osq
          go_wp2_with fail
          go_roundw
          case rel =>
            refine ⟨i, h, hmi, by have := HBB.out; omega, by have := HBB.out; omega, rfl, by go_num, HLL.out, .inr ?_, S2.out⟩
            have hrx := HRX.out
            rw [HXY.out.1, HXY.out.2, HBB.out.2.2.2.2.2.2] at hrx
            exact hrx
          case measure => have := HBB.out; simp [intOf]; omega
        · have hd : decide (r < 0) = false := decide_eq_false hq
          have HRX := Lib.hid (HQ.out.2 (by omega))
          go_wp2_with fail
          go_quiet_grown (first | (go_at_fn g; refine Calls.grown_of (hc _ _)))
          have S2 : Hid (SWn w0 blk off d (Sort.grow (wr.drewN nq) osq)) := Lib.hid (HS.out.grown nq osq)
          clear cx cy hc HS
          generalize Sort.grow (wr.drewN nq) osq = w2 at S2 ⊢
          clear nq osq
          go_wp2_with fail
          go_roundw
          case rel =>
            refine ⟨h + 1, j, by have := HBB.out; omega, by have := HBB.out; omega, hjb, by go_num, rfl, .inr ?_, HRR.out, S2.out⟩
            have hrx := HRX.out
            rw [HXY.out.1, HXY.out.2, HBB.out.2.2.2.2.2.2] at hrx
            rw [show h + 1 - 1 = h by omega, show n - (h + 1) = n - 1 - h by omega]
            exact hrx
          case measure => have := HBB.out; simp [intOf]; omega
      · obtain ⟨s, hes⟩ : ∃ s, s = i := ⟨_, rfl⟩
        obtain rfl : i = j := by omega
        rw [← hes] at HLL HRR hmi hjb ⊢
        clear hes hij hlt
        have hpn := HN.out
        obtain ⟨e, he⟩ : ∃ e, n = s + e := ⟨n - s, by omega⟩
        have z7 : IntKind.i64.wrap ((n : Int) - (s : Int)) = (e : Int) := by rw [IntKind.wrap_i64]; have := HNB.out; omega
        have HCC := Lib.hid (HCUT.out s e hmi hjb he HLL.out HRR.out)
        have HTT := Lib.hid fun d' => HTWO.out s e d' HCC.out he
        have HLE : Hid (a ≤ s ∧ s ≤ mid ∧ mid ≤ e ∧ e ≤ b ∧ s ≤ m ∧ m ≤ e ∧ a < mid ∧ mid < b) := Lib.hid (by have := HCC.out.le1; have := HCC.out.le2; have := HCC.out.le3; have := HCC.out.le4; omega)
        have HRT := Lib.hid fun h1 h2 => HROT.out s e wr h1 h2 HLE.out.2.2.2.1 HS.out
        have l0 : ¬ (s : Int) < (s : Int) := by omega
        clear hpn he HLL HRR HCUT HTWO HROT hmi hjb b1 b2 b3 b4 b5
        obtain ⟨c1, hc1⟩ : ∃ c1 : Bool, c1 = decide (s < m ∧ m < e) := ⟨_, rfl⟩
        have HC1 := Lib.hid hc1
        clear hc1
        go_upto_region 39 with fail
        clear z7
        go_cut [185] from 175 to 219 (fun v wx => v = .bool c1 ∧ wx = wr)
        case first =>
          by_cases c5 : s < m
          · have k1 : (s : Int) < (m : Int) := by omega
            by_cases c6 : m < e
            · have k2 : (m : Int) < (e : Int) := by omega
              have HB1 : Hid (c1 = true) := Lib.hid (by rw [HC1.out]; exact decide_eq_true ⟨c5, c6⟩)
              go_wp2_with fail
              go_meet
              exact ⟨by rw [HB1.out], rfl⟩
            · have k2 : ¬ (m : Int) < (e : Int) := by omega
              have HB1 : Hid (c1 = false) := Lib.hid (by rw [HC1.out]; exact decide_eq_false fun q => c6 q.2)
              go_wp2_with fail
              go_meet
              exact ⟨by rw [HB1.out], rfl⟩
          · have k1 : ¬ (s : Int) < (m : Int) := by omega
            have HB1 : Hid (c1 = false) := Lib.hid (by rw [HC1.out]; exact decide_eq_false fun q => c5 q.1)
            go_wp2_with fail
            go_meet
            exact ⟨by rw [HB1.out], rfl⟩
        case rest =>
        obtain ⟨rfl, hww⟩ := hcut
        have hww := hww.symm
        subst hww
        go_upto_if 185 with fail
        go_cut [] from 175 to 219 (fun wx => ∃ d1, Rot d d1 s m e ∧ SWn w0 blk off d1 wx)
        case first =>
          cases hc : c1 with
          | true =>
            have HRT2 : Hid _ := Lib.hid (HRT.out (of_decide_eq_true (HC1.out.symm.trans hc)).1 (of_decide_eq_true (HC1.out.symm.trans hc)).2)
            clear HRT HC1
            subst hc
            go_wp2_with (first
              | (go_at_call 54
                 refine HRT2.out.mono ?_
                 rintro e' u1 ⟨rfl, d1, q1, q2⟩
                 have HQ1 := Lib.hid q1
                 have HQ2 := Lib.hid q2
                 clear q1 q2))
            go_meet
            exact ⟨d1, HQ1.out, HQ2.out⟩
          | false =>
            have HNR := Lib.hid (of_decide_eq_false (HC1.out.symm.trans hc))
            clear HC1
            subst hc
            go_wp2_with fail
            go_meet
            exact ⟨d, rot_none HLE.out.2.2.2.2.1 HLE.out.2.2.2.2.2.1 HNR.out, HS.out⟩
        case rest =>
        obtain ⟨d1, q1, q2⟩ := hcut
        have HT := Lib.hid (HTT.out d1 q1)
        have HS1 := Lib.hid q2
        clear q1 q2 HS HTT HRT HC1 c1
        have hd1 : d1.size = L := HT.out.seg.size.trans hk
        have HL1 : Hid (a < s → s < mid → Calls Try.prog 46 #[.slice (some ⟨blk, off, none⟩) L cap, .int .i64 (a : Int), .int .i64 (s : Int), .int .i64 (mid : Int), .func (.func g) #[] cb] wc (SymQ Rl w0 blk off d1 a mid)) := Lib.hid fun q1 q2 => HIH.out a s mid d1 wc (by have := HLE.out; omega) q1 q2 (by have := HLE.out; omega) hd1 HS1.out HT.out.l1 HT.out.l2 HT.out.sl
        have HSL : Hid (¬ (a < s ∧ s < mid) → Sd Rl d1 a mid) := Lib.hid fun q => by
          have hle := HLE.out
          rcases (show a = s ∨ s = mid by omega) with r | r
          · rw [r]; exact HT.out.l2
          · rw [← r]; exact HT.out.l1
        obtain ⟨c1, hc1⟩ : ∃ c1 : Bool, c1 = decide (a < s ∧ s < mid) := ⟨_, rfl⟩
        have HC1 := Lib.hid hc1
        clear hc1
        obtain ⟨w1, hw1⟩ : ∃ w1, w1 = wc := ⟨_, rfl⟩
        subst hw1
        go_upto_region 41 with fail
        go_cut [199] from 175 to 219 (fun v wx => v = .bool c1 ∧ wx = w1)
        case first =>
          by_cases c5 : a < s
          · have k1 : (a : Int) < (s : Int) := by omega
            by_cases c6 : s < mid
            · have k2 : (s : Int) < (mid : Int) := by omega
              have HB1 : Hid (c1 = true) := Lib.hid (by rw [HC1.out]; exact decide_eq_true ⟨c5, c6⟩)
              go_wp2_with fail
              go_meet
              exact ⟨by rw [HB1.out], rfl⟩
            · have k2 : ¬ (s : Int) < (mid : Int) := by omega
              have HB1 : Hid (c1 = false) := Lib.hid (by rw [HC1.out]; exact decide_eq_false fun q => c6 q.2)
              go_wp2_with fail
              go_meet
              exact ⟨by rw [HB1.out], rfl⟩
          · have k1 : ¬ (a : Int) < (s : Int) := by omega
            have HB1 : Hid (c1 = false) := Lib.hid (by rw [HC1.out]; exact decide_eq_false fun q => c5 q.1)
            go_wp2_with fail
            go_meet
            exact ⟨by rw [HB1.out], rfl⟩
        case rest =>
        obtain ⟨rfl, hww⟩ := hcut
        have hww := hww.symm
        subst hww
        go_upto_if 199 with fail
        go_cut [] from 175 to 219 (fun wx => ∃ d2, Seg d1 d2 a mid ∧ Sd Rl d2 a mid ∧ SWn w0 blk off d2 wx)
        case first =>
          cases hc : c1 with
          | true =>
            have HRT2 : Hid _ := Lib.hid (HL1.out (of_decide_eq_true (HC1.out.symm.trans hc)).1 (of_decide_eq_true (HC1.out.symm.trans hc)).2)
            clear HL1 HC1
            subst hc
            go_wp2_with (first
              | (go_at_call 46
                 refine HRT2.out.mono ?_
                 rintro e' u1 ⟨rfl, d2, q1, q2⟩
                 have HQ1 := Lib.hid q1
                 have HQ2 := Lib.hid q2
                 clear q1 q2))
            go_meet
            exact ⟨d2, HQ1.out, HQ2.out.1, HQ2.out.2⟩
          | false =>
            have HNR := Lib.hid (of_decide_eq_false (HC1.out.symm.trans hc))
            clear HC1
            subst hc
            go_wp2_with fail
            go_meet
            exact ⟨d1, Seg.refl _ _ _, HSL.out HNR.out, HS1.out⟩
        case rest =>
        obtain ⟨d2, q1, q2, q3⟩ := hcut
        have HD2 := Lib.hid q1
        have HE2 := Lib.hid q2
        have HS2 := Lib.hid q3
        clear q1 q2 q3 HS1 HL1 HSL HC1 c1
        have HR1 : Hid (mid < e → e < b → Calls Try.prog 46 #[.slice (some ⟨blk, off, none⟩) L cap, .int .i64 (mid : Int), .int .i64 (e : Int), .int .i64 (b : Int), .func (.func g) #[] cb] wc (SymQ Rl w0 blk off d2 mid b)) := Lib.hid fun q1 q2 => HIH.out mid e b d2 wc (by have := HLE.out; omega) q1 q2 hb (HD2.out.size.trans hd1) HS2.out (HT.out.r1.same fun k k1 k2 => HD2.out.out k (by omega)) (HT.out.r2.same fun k k1 k2 => HD2.out.out k (by omega)) (fun i j k1 k2 k3 k4 => by rw [HD2.out.out i (by omega), HD2.out.out j (by omega)]; exact HT.out.sr i j k1 k2 k3 k4)
        have HSR : Hid (¬ (mid < e ∧ e < b) → Sd Rl d2 mid b) := Lib.hid fun q => by
          have hle := HLE.out
          refine Sd.same (d := d1) ?_ fun k k1 k2 => HD2.out.out k (by omega)
          rcases (show mid = e ∨ e = b by omega) with r | r
          · rw [r]; exact HT.out.r2
          · rw [← r]; exact HT.out.r1
        obtain ⟨c1, hc1⟩ : ∃ c1 : Bool, c1 = decide (mid < e ∧ e < b) := ⟨_, rfl⟩
        have HC1 := Lib.hid hc1
        clear hc1
        obtain ⟨w1, hw1⟩ : ∃ w1, w1 = wc := ⟨_, rfl⟩
        subst hw1
        go_upto_region 43 with fail
        go_cut [213] from 175 to 219 (fun v wx => v = .bool c1 ∧ wx = w1)
        case first =>
          by_cases c5 : mid < e
          · have k1 : (mid : Int) < (e : Int) := by omega
            by_cases c6 : e < b
            · have k2 : (e : Int) < (b : Int) := by omega
              have HB1 : Hid (c1 = true) := Lib.hid (by rw [HC1.out]; exact decide_eq_true ⟨c5, c6⟩)
              go_wp2_with fail
              go_meet
              exact ⟨by rw [HB1.out], rfl⟩
            · have k2 : ¬ (e : Int) < (b : Int) := by omega
              have HB1 : Hid (c1 = false) := Lib.hid (by rw [HC1.out]; exact decide_eq_false fun q => c6 q.2)
              go_wp2_with fail
              go_meet
              exact ⟨by rw [HB1.out], rfl⟩
          · have k1 : ¬ (mid : Int) < (e : Int) := by omega
            have HB1 : Hid (c1 = false) := Lib.hid (by rw [HC1.out]; exact decide_eq_false fun q => c5 q.1)
            go_wp2_with fail
            go_meet
            exact ⟨by rw [HB1.out], rfl⟩
        case rest =>
        obtain ⟨rfl, hww⟩ := hcut
        have hww := hww.symm
        subst hww
        have HFIN : Hid (∀ d3, Seg d2 d3 mid b → Sd Rl d3 mid b → Seg d d3 a b ∧ Sd Rl d3 a b) := Lib.hid fun d3 q1 q2 => by
          have hf := two_done HT.out.x HD2.out HE2.out q1 q2 (by have := HLE.out; omega) (by have := HLE.out; omega)
          exact ⟨HT.out.seg.trans hf.1, hf.2⟩
        clear HT
        cases hc : c1 with
        | true =>
          have HRT2 : Hid _ := Lib.hid (HR1.out (of_decide_eq_true (HC1.out.symm.trans hc)).1 (of_decide_eq_true (HC1.out.symm.trans hc)).2)
          clear HR1 HC1
          subst hc
          go_wp2_with (first
            | (go_at_call 46
               refine HRT2.out.mono ?_
               rintro e' u1 ⟨rfl, d3, q1, q2, q3⟩
               have HQ := Lib.hid (HFIN.out d3 q1 q2)
               have HQ3 := Lib.hid q3
               clear q1 q2 q3))
          go_end0
          exact ⟨rfl, d3, HQ.out.1, HQ.out.2, HQ3.out⟩
        | false =>
          have HNR := Lib.hid (of_decide_eq_false (HC1.out.symm.trans hc))
          clear HC1
          subst hc
          go_wp2_with fail
          go_end0
          have hf := HFIN.out d2 (Seg.refl _ _ _) (HSR.out HNR.out)
          exact ⟨rfl, d2, hf.1, hf.2, HS2.out⟩
end Go.Proofs.Ytfchmmojhfjibaa
