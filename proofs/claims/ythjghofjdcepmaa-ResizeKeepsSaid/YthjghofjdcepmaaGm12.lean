import Derived.WalkKit
import Derived.OwnWalkIn
import Derived.TacticsInMore
import Derived.LoopNIn
import Derived.LoopIn
import Derived.Test.YthjghofjdcepmaaGm11
/- Stage 13: the landed table: the way of a hash. -/
namespace Go.Proofs.Ythjghofjdcepmaa
set_option maxRecDepth 100000
open Go.RowKit Go.Shelf
attribute [local go_sem] Oper.semAt_some
/-- The places of a hash's way, the first k; all of them: its first empty place too. -/
def Tb.wk (s : Tb) (h k : Nat) : List Nat := (List.range k).map (s.st h)
def Tb.wm (s : Tb) (h : Nat) : Nat := if s.lim h < s.n then s.lim h + 1 else s.lim h
def Tb.wa (s : Tb) (h : Nat) : List Nat := s.wk h (s.wm h)
theorem wk_succ (s : Tb) (h k : Nat) : s.wk h (k + 1) = s.wk h k ++ [s.st h k] := by
  unfold Tb.wk
  rw [List.range_succ, List.map_append]
  rfl
theorem wk_len (s : Tb) (h k : Nat) : (s.wk h k).length = k := by
  unfold Tb.wk
  rw [List.length_map, List.length_range]
theorem wk_pre (s : Tb) (h : Nat) {k : Nat} : ∀ {m : Nat}, k ≤ m → s.wk h k <+: s.wk h m
  | 0, hk => by
    obtain rfl : k = 0 := by omega
    exact List.prefix_rfl
  | m + 1, hk => by
    rcases (show k ≤ m ∨ k = m + 1 by omega) with q | rfl
    · rw [wk_succ]
      exact (wk_pre s h q).trans (List.prefix_append _ _)
    · exact List.prefix_rfl
theorem wk_is {s : Tb} {h m : Nat} {pre : List Nat} (hp : pre <+: s.wk h m) : pre = s.wk h pre.length ∧ pre.length ≤ m := by
  have hl := hp.length_le
  rw [wk_len] at hl
  refine ⟨?_, hl⟩
  exact (List.prefix_of_prefix_length_le hp (wk_pre s h hl) (by rw [wk_len]; exact Nat.le_refl _)).eq_of_length (by rw [wk_len])
/-- A place, as its way hands it on. -/
def wEnc (s : Tb) (x : Nat) : Array Value := #[.int .i64 (x : Int), .agg #[.int .u8 (stc s x : Int), .int .u64 (s.eh x : Int), .int .u32 (s.ew x : Int)]]
theorem way_any (w : World) (A : Option Addr) (n c : Nat) (h : Nat) : Calls Try.prog 61 #[.slice A n c, .int .u64 (h : Int)] w fun e w' => e = .returned (.func (.func 73) #[] #[.pointer (some ⟨w.heap.size, 0, none⟩), .pointer (some ⟨w.heap.size + 1, 0, none⟩)]) ∧ w' = (w.alloc (.cells #[.slice A n c] 88)).alloc (.cells #[.int .u64 (h : Int)] 31) := by
  go_enter Try.func61, Try.ntmps61
  go_wp2_with fail
  go_ret
  exact ⟨by simp, rfl⟩
theorem way_eg : ∀ args w, (callFunc 73 args).run Try.prog w = .ok (.enter 73 args) w := fun _ _ => by kernel_rfl
set_option maxHeartbeats 2000000 in
theorem way_it {w0 : World} {p g c : Nat} {e : Int} {s : Tb} {F R : Nat → Prop} (hx : PTX w0 p g c e s F) (hs : s.Ok) (h : Nat) (_hh : h < 18446744073709551616) {b2 b3 : Nat} (hRb : ∀ k, R k → k < w0.heap.size) (hRg : ¬ R g) (hR2 : ¬ R b2) (hR3 : ¬ R b3)
    (h2 : w0.cell? ⟨b2, 0, none⟩ = some (.slice (some ⟨g, 0, none⟩) s.n c)) (h3 : w0.cell? ⟨b3, 0, none⟩ = some (.int .u64 (h : Int))) :
    SeqP Fence.wide 12 Try.prog 73 #[.pointer (some ⟨b2, 0, none⟩), .pointer (some ⟨b3, 0, none⟩)] (wEnc s) (KeptC R) (s.wa h) w0 := fun l J Jx W hW hJ hJx hY hJ0 => by
  have hmay := hx.may
  have cap := PTY.cap hx
  have cap9 := PTY.cap9 hx
  have htop := (PTY.pos hx).2
  have hpos := hs.pos
  have HRB := Lib.hid hRb
  have HS : Hid (∀ k, s.st h k < s.n) := Lib.hid fun k => Tb.st_lt hs h k
  have HSW : Hid (∀ k, (h + k) % 18446744073709551616 % s.n = s.st h k) := Lib.hid fun k => st_wrap hmay h k
  have HC : Hid (∀ V, KeptC R w0 V → V.cell? ⟨b2, 0, none⟩ = some (.slice (some ⟨g, 0, none⟩) s.n c) ∧ V.cell? ⟨b3, 0, none⟩ = some (.int .u64 (h : Int))) := Lib.hid fun V hV => ⟨hV.cell h2 hR2, hV.cell h3 hR3⟩
  have HG : Hid (∀ V, KeptC R w0 V → ∀ x, x < s.n → V.cell? ⟨g, x * 3, none⟩ = some (.int .u8 (stc s x : Int)) ∧ V.cell? ⟨g, x * 3 + 1, none⟩ = some (.int .u64 (s.eh x : Int)) ∧ V.cell? ⟨g, x * 3 + 2, none⟩ = some (.int .u32 (s.ew x : Int))) := Lib.hid fun V hV x hxn => ⟨hV.cell (hx.c0 hxn) hRg, hV.cell (hx.c1 hxn) hRg, hV.cell (hx.c2 hxn) hRg⟩
  have HL0 : Hid (s.lim h ≤ s.n) := Lib.hid (Tb.lim_le s h)
  have HLi : Hid (∀ k, k < s.lim h → stc s (s.st h k) ≠ 0) := Lib.hid fun k hk => by
    rcases Tb.lim_in hk with q | q
    · rw [stc_ful q]
      decide
    · cases hf : s.ful (s.st h k) with
      | true =>
        rw [stc_ful hf]
        decide
      | false =>
        rw [stc_mrk hf q]
        decide
  have HLe : Hid (s.lim h < s.n → stc s (s.st h (s.lim h)) = 0) := Lib.hid fun hl => by
    obtain ⟨q1, q2⟩ := Tb.lim_end hl
    exact stc_no q1 q2
  have HYd := Lib.hid hY
  have HJ := Lib.hid hJ
  have HJx := Lib.hid hJx
  have HK0 : Hid (KeptC R w0 W) := Lib.hid (KeptC.of_below hW R)
  have HJ0 : Hid (J (s.wk h 0) W) := Lib.hid hJ0
  obtain ⟨n, hn⟩ : ∃ n, n = s.n := ⟨_, rfl⟩
  have HWA : Hid (s.wa h = s.wk h (if s.lim h < n then s.lim h + 1 else s.lim h)) := Lib.hid (by rw [hn]; rfl)
  rw [← hn] at cap htop hpos HS HSW HC HG HL0 HLe
  obtain ⟨m, hm⟩ : ∃ m, m = s.lim h := ⟨_, rfl⟩
  rw [← hm] at HL0 HLi HLe HWA
  clear hY hJ hW hJ0 hJx hx hs h2 h3 hR2 hR3 hRg hmay hn hm hRb
  refine callsIn_of_wp Try.func73 rfl trivial ?_ rfl
  simp only [Try.ntmps73, List.size_toArray, List.length_cons, List.length_nil, Nat.reduceAdd, Nat.reduceSub, Array.replicate_succ, Array.replicate_zero, List.push_toArray, List.append_toArray, List.nil_append, List.cons_append]
  have x2 := (HC.out W HK0.out).1
  gi_wp2
  clear x2
  gi_loopw [9] (fun i wr => ∃ k : Nat, k ≤ m ∧ i = .int .i64 (k : Int) ∧ J (s.wk h k) wr ∧ KeptC R w0 wr) (fun i _ => n - (intOf i).toNat)
  case atStart => exact ⟨0, Nat.zero_le _, rfl, HJ0.out, HK0.out⟩
  case round =>
    obtain ⟨k, hk, rfl, hJs, hkw⟩ := hrel
    have HJs := Lib.hid hJs
    have HKw := Lib.hid hkw
    clear hJs hkw
    have HKM := Lib.hid hk
    have zw : IntKind.i64.wrap ((k : Int) + 1) = (k : Int) + 1 := by
      have := HL0.out
      rw [IntKind.wrap_i64]
      omega
    by_cases hlt : k < n
    · have hlt' : (k : Int) < (n : Int) := by omega
      obtain ⟨x, hxs⟩ : ∃ x, x = s.st h k := ⟨_, rfl⟩
      have hxn : x < n := by rw [hxs]; exact HS.out k
      have x0 : (0 : Int) ≤ (x : Int) := by omega
      have x1 : (x : Int) < (n : Int) := by omega
      have x2 : ((x : Int)).toNat = x := by omega
      obtain ⟨y, hy⟩ : ∃ y, y = (h + k) % 18446744073709551616 := ⟨_, rfl⟩
      have z1 : IntKind.u64.wrap (k : Int) = (k : Int) := by rw [IntKind.wrap_u64]; omega
      have z2 : IntKind.u64.wrap ((h : Int) + (k : Int)) = (y : Int) := by rw [IntKind.wrap_u64, hy]; omega
      have z3 : IntKind.u64.wrap (n : Int) = (n : Int) := by rw [IntKind.wrap_u64]; omega
      have z4 : ¬ (n : Int) = 0 := by omega
      have z5 : (y : Int) % (n : Int) = (x : Int) := by
        have := HSW.out k
        rw [← hxs, ← hy] at this
        rw [← this, Int.natCast_emod]
      have z6 : IntKind.i64.wrap (x : Int) = (x : Int) := by rw [IntKind.wrap_i64]; omega
      obtain ⟨a, ha⟩ : ∃ a, a = stc s x := ⟨_, rfl⟩
      obtain ⟨u, hu⟩ : ∃ u, u = s.eh x := ⟨_, rfl⟩
      obtain ⟨v, hv⟩ : ∃ v, v = s.ew x := ⟨_, rfl⟩
      obtain ⟨c2, c3⟩ := HC.out wr HKw.out
      obtain ⟨g0, g1, g2⟩ := HG.out wr HKw.out x hxn
      rw [← ha] at g0
      rw [← hu] at g1
      rw [← hv] at g2
      have HE : Hid (wEnc s x = #[.int .i64 (x : Int), .agg #[.int .u8 (a : Int), .int .u64 (u : Int), .int .u32 (v : Int)]]) := Lib.hid (by rw [ha, hu, hv]; rfl)
      have HXS := Lib.hid hxs
      have HAS := Lib.hid ha
      have HSU : Hid (s.wk h (k + 1) = s.wk h k ++ [x]) := Lib.hid (by rw [wk_succ, hxs])
      clear hxs hy ha hu hv hxn
      have hz : (wr.alloc (.cells #[.int .u8 (a : Int), .int .u64 (u : Int), .int .u32 (v : Int)] 97)).heap[wr.heap.size]? = some (.cells #[.int .u8 (a : Int), .int .u64 (u : Int), .int .u32 (v : Int)] 97 (0, 0)) := heap_alloc_new wr _
      have q0 : (wr.alloc (.cells #[.int .u8 (a : Int), .int .u64 (u : Int), .int .u32 (v : Int)] 97)).cell? ⟨wr.heap.size, 0, none⟩ = some (.int .u8 (a : Int)) := blk_cell hz 0
      have q1 : (wr.alloc (.cells #[.int .u8 (a : Int), .int .u64 (u : Int), .int .u32 (v : Int)] 97)).cell? ⟨wr.heap.size, 1, none⟩ = some (.int .u64 (u : Int)) := blk_cell hz 1
      have q2 : (wr.alloc (.cells #[.int .u8 (a : Int), .int .u64 (u : Int), .int .u32 (v : Int)] 97)).cell? ⟨wr.heap.size, 2, none⟩ = some (.int .u32 (v : Int)) := blk_cell hz 2
      have HZ := Lib.hid hz
      have hba := below_alloc wr (.cells #[.int .u8 (a : Int), .int .u64 (u : Int), .int .u32 (v : Int)] 97)
      have HK2 : Hid (KeptC R w0 (wr.alloc (.cells #[.int .u8 (a : Int), .int .u64 (u : Int), .int .u32 (v : Int)] 97))) := Lib.hid (keptC_t HKw.out (KeptC.of_below hba R))
      have hJ2 := HJ.out _ _ _ none HJs.out (grown_below hba) (fun r e => nomatch e)
      have HPR : Hid (s.wk h k ++ [x] <+: s.wa h) := Lib.hid (by
        rw [← HSU.out, HWA.out]
        refine wk_pre s h ?_
        split <;> omega)
      have HRQ : Hid (¬ R wr.heap.size) := Lib.hid fun q => by
        have h1 := HRB.out _ q
        have h2 := HKw.out.1
        omega
      obtain ⟨fn, tmps, assign, body, hy, hR2⟩ := HYd.out (s.wk h k) x _ hJ2 HPR.out
      rw [HE.out] at hy
      have HR2 := Lib.hid hR2
      clear hR2 hJ2 hba hz HKw HJs
      gi_wp2
      refine HR2.out.mono ?_
      rintro e W3 (⟨rfl, hJ3, hk3⟩ | ⟨rfl, hJx3⟩)
      · have HK3 := Lib.hid (keptC_t HK2.out hk3)
        have HJ3 := Lib.hid hJ3
        have p0 : W3.cell? ⟨wr.heap.size, 0, none⟩ = some (.int .u8 (a : Int)) := hk3.cell q0 HRQ.out
        clear hJ3 hk3 hy q0 q1 q2 g0 g1 g2 c2 c3
        by_cases ha0 : a = 0
        · subst ha0
          have HKL : Hid (k = m) := Lib.hid (by
            rcases (show k < m ∨ k = m by omega) with q | q
            · have := HLi.out k q
              rw [← HXS.out, ← HAS.out] at this
              exact absurd rfl this
            · exact q)
          gi_wp2
          refine ⟨rfl, _, results_none rfl _ _ _, ⟨_, rfl⟩, .inl ?_⟩
          rw [HWA.out, if_pos (by rw [← HKL.out]; exact hlt), ← HKL.out, HSU.out]
          exact HJ3.out
        · have hne : ((a : Int) == 0) = false := by simp; omega
          have HKL : Hid (k < m) := Lib.hid (by
            rcases (show k < m ∨ k = m by omega) with q | q
            · exact q
            · have := HLe.out (by omega)
              rw [← q, ← HXS.out, ← HAS.out] at this
              exact absurd this ha0)
          clear ha0
          gi_wp2
          go_roundw
          case rel => exact ⟨k + 1, by have := HKL.out; omega, by go_num, by rw [HSU.out]; exact HJ3.out, HK3.out⟩
          case measure => simp [intOf]; omega
      · clear hy q0 q1 q2 g0 g1 g2 c2 c3
        gi_wp2
        exact ⟨rfl, _, results_none rfl _ _ _, ⟨_, rfl⟩, .inr ⟨_, HPR.out, hJx3⟩⟩
    · have hlt' : ¬ (k : Int) < (n : Int) := by omega
      have HKL : Hid (k = m ∧ ¬ m < n) := Lib.hid (by
        have := HL0.out
        omega)
      gi_wp2
      refine ⟨rfl, _, results_none rfl _ _ _, ⟨_, rfl⟩, .inl ?_⟩
      rw [HWA.out, if_neg HKL.out.2, ← HKL.out.1]
      exact HJs.out
end Go.Proofs.Ythjghofjdcepmaa
