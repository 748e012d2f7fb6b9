/- Stage 9: same, over whatever arena. -/
import Derived.Test.YthljpfmonienlaaTl
import Derived.Test.YthljpfmonienlaaRf
import Derived.Test.YthljpfmonienlaaRe
import Derived.Test.YthljpfmonienlaaInG
import Derived.Test.YthljpfmonienlaaRnd
import Derived.Test.YthljpfmonienlaaQh
namespace Go.Proofs.Ythljpfmonienlaa
set_option maxRecDepth 100000
set_option pp.maxSteps 100000
open Go.RowKit Go.Shelf
attribute [local go_sem] Oper.semAt_some
/-- The live handle at an index, as it is told; whether there is one. -/
def Ar.is_ (s : Ar) (i : Int) : Bool := decide (0 ≤ i) && decide (s.at_ i.toNat ≠ 0)
def Ar.hat (s : Ar) (i : Int) : Array Value := if s.is_ i = true then #[.int .i64 i, .int .u64 (s.at_ i.toNat : Int)] else #[.int .i64 0, .int .u64 0]
def ret (v : Value) (W : World) (e : Ending) (w' : World) : Prop := e = .returned v ∧ Below W.heap.size W w'
theorem rdc_pos {w : World} {B m : Nat} {A : Option Addr} {f : Nat → Value} (h : RdC w B A m f) (hm : 0 < m) : ∃ b off, A = some ⟨b, off, none⟩ ∧ b < B ∧ ∀ k, k < m → w.cell? ⟨b, off + k, none⟩ = some (f k) := by
  rcases h with h | h
  · exact absurd h (by omega)
  · exact h
theorem tcell_at {l : List (Nat × Nat)} {k : Nat} {x : Nat × Nat} (h : l[k]? = some x) {j : Nat} (hj : j < 2) : some (tcell l (k * 2 + j)) = (#[.int .i64 (x.1 : Int), .int .u64 (x.2 : Int)] : Array Value).toList[j]? := by
  unfold tcell
  have e : l.getD ((k * 2 + j) / 2) (0, 0) = x := by
    rw [show (k * 2 + j) / 2 = k by omega, List.getD_eq_getElem?_getD, h]
    rfl
  rw [e]
  rcases (show j = 0 ∨ j = 1 by omega) with rfl | rfl
  · rw [if_pos (by omega)]; rfl
  · rw [if_neg (by omega)]; rfl
/-- What an arena of the program's tells, whatever it is; nothing old is turned by it. -/
def Reads (g p : Nat) (s : Ar) (w : World) : Prop := ∀ W, Below w.heap.size w W →
  Calls Try.prog 17 #[.pointer (some ⟨p, 0, none⟩)] W (ret (.int .i64 ((s.told s.has.length).length : Int)) W) ∧
  Calls Try.prog 19 #[.pointer (some ⟨p, 0, none⟩)] W (ret (.int .i64 (s.has.length : Int)) W) ∧
  (∀ (i : Int) (k : Nat), Calls Try.prog 18 #[.pointer (some ⟨p, 0, none⟩), .agg #[.int .i64 i, .int .u64 (k : Int)]] W (ret (.bool (s.live i k)) W)) ∧
  (∀ i : Int, Calls Try.prog 13 #[.pointer (some ⟨p, 0, none⟩), .int .i64 i] W (ret (.tuple #[.agg (s.hat i), .bool (s.is_ i)]) W)) ∧
  Calls Try.prog 20 #[.pointer (some ⟨p, 0, none⟩)] W (AllO g (s.told s.has.length) w.heap.size W)
set_option maxHeartbeats 4000000 in
theorem same_any (g : Nat) (eg : ∀ args w, (callFunc g args).run Try.prog w = .ok (.enter g args) w) (p q : Nat) (s : Ar) (_hs : s.Ok) (hn : s.has.length ≤ 65536) (G : Nat → Prop) (hi : Int) (hk : Nat) (w : World) (HA : Reads g p s w) (HR : RA w q s G) :
    Calls Try.prog 16 #[.pointer (some ⟨p, 0, none⟩), .pointer (some ⟨q, 0, none⟩), .agg #[.int .i64 hi, .int .u64 (hk : Int)]] w fun e w' => e = .returned (.bool true) ∧ Below w.heap.size w w' := by
  obtain ⟨A0, c0, B0, d0, hx⟩ := HR
  have HC := Lib.hid HA
  have HX := Lib.hid hx
  have HQ : Hid (q < w.heap.size) := Lib.hid (hx.old q hx.mem)
  have HRL : Hid (∀ W, Below w.heap.size w W → Calls Try.prog 24 #[.pointer (some ⟨q, 0, none⟩), .agg #[.int .i64 hi, .int .u64 (hk : Int)]] W fun e w' => e = .returned (.bool (s.live hi hk)) ∧ Below W.heap.size W w') := Lib.hid fun W hW => rlive_any (s := s) ⟨A0, c0, B0, d0, hx.step hW⟩ hn hi hk
  have HRLV : Hid (∀ W, Below w.heap.size w W → ∀ (i : Int) (k : Nat), Calls Try.prog 24 #[.pointer (some ⟨q, 0, none⟩), .agg #[.int .i64 i, .int .u64 (k : Int)]] W fun e w' => e = .returned (.bool (s.live i k)) ∧ Below W.heap.size W w') := Lib.hid fun W hW i k => rlive_any (s := s) ⟨A0, c0, B0, d0, hx.step hW⟩ hn i k
  clear HA hx
  obtain ⟨L, hL⟩ : ∃ L, L = (s.told s.has.length).length := ⟨_, rfl⟩
  have HL := Lib.hid hL
  refine (callsIn_wide (n := 13)).1 ?_
  refine callsIn_of_wp_marks Try.func16 rfl trivial ?_ rfl
  refine wpIn_wide.2 ?_
  simp only [Try.ntmps16, List.size_toArray, List.length_cons, List.length_nil, Nat.reduceAdd, Nat.reduceSub, Array.replicate_succ, Array.replicate_zero, List.push_toArray, List.append_toArray, List.nil_append, List.cons_append]
  have hr1 : (w.alloc (.cells #[.pointer (some ⟨p, 0, none⟩)] 24)).heap.size = w.heap.size + 1 := by simp
  have hr2 : ((w.alloc (.cells #[.pointer (some ⟨p, 0, none⟩)] 24)).alloc (.cells #[.int .i64 hi, .int .u64 (hk : Int)] 32)).heap.size = w.heap.size + 2 := by simp
  have HM1 : Hid (Mem w (((w.alloc (.cells #[.pointer (some ⟨p, 0, none⟩)] 24)).alloc (.cells #[.int .i64 hi, .int .u64 (hk : Int)] 32)).alloc (.cells #[.bool false] 4)) [(w.heap.size, .cells #[.pointer (some ⟨p, 0, none⟩)] 24 (0, 0)), (w.heap.size + 1, .cells #[.int .i64 hi, .int .u64 (hk : Int)] 32 (0, 0)), (w.heap.size + 2, .cells #[.bool false] 4 (0, 0))]) := Lib.hid (by
    have h := ((((Mem.nil w).alloc (.cells #[.pointer (some ⟨p, 0, none⟩)] 24)).alloc (.cells #[.int .i64 hi, .int .u64 (hk : Int)] 32)).alloc (.cells #[.bool false] 4))
    rw [hr1, hr2] at h
    exact h)
  clear hr1 hr2
  go_upto_region 1 with fail
  change Code.wp _ _ _ _ (((w.alloc (.cells #[.pointer (some ⟨p, 0, none⟩)] 24)).alloc (.cells #[.int .i64 hi, .int .u64 (hk : Int)] 32)).alloc (.cells #[.bool false] 4))
  generalize ((w.alloc (.cells #[.pointer (some ⟨p, 0, none⟩)] 24)).alloc (.cells #[.int .i64 hi, .int .u64 (hk : Int)] 32)).alloc (.cells #[.bool false] 4) = u1 at *
  have HRA := Lib.hid (rall_any (s := s) ⟨A0, c0, B0, d0, HX.out.step HM1.out.below⟩ hn)
  go_upto_region 2 with (first
    | (go_at_call 26
       refine HRA.out.mono ?_
       rintro e u2 ⟨A, c, rfl, ho, hb⟩
       have HM2 := Lib.hid (HM1.out.step hb)
       have HRD : Hid (RdC u2 u2.heap.size A (L * 2) (tcell (s.told s.has.length))) := Lib.hid (by rw [hL]; exact ho.rd)
       clear ho hb HM1 HRA))
  rw [← hL]
  obtain ⟨b7, hb7⟩ : ∃ b, b = u2.heap.size := ⟨_, rfl⟩
  have HB7 := Lib.hid hb7
  have HB37 : Hid (w.heap.size + 2 < b7) := Lib.hid (by rw [hb7]; exact lt_heap (HM2.out.get 2 rfl))
  have HM3 : Hid (Mem w (u2.alloc (.cells #[.slice A L c] 45)) [(w.heap.size, .cells #[.pointer (some ⟨p, 0, none⟩)] 24 (0, 0)), (w.heap.size + 1, .cells #[.int .i64 hi, .int .u64 (hk : Int)] 32 (0, 0)), (w.heap.size + 2, .cells #[.bool false] 4 (0, 0)), (b7, .cells #[.slice A L c] 45 (0, 0))]) := Lib.hid (by
    have h := HM2.out.alloc (.cells #[.slice A L c] 45)
    rw [← hb7] at h
    exact h)
  have HB23 : Hid (Below u2.heap.size u2 (u2.alloc (.cells #[.slice A L c] 45))) := Lib.hid (below_alloc u2 _)
  rw [← hb7]
  clear hb7
  generalize u2.alloc (.cells #[.slice A L c] 45) = u3 at *
  have HB3 : Hid (Below w.heap.size w u3) := Lib.hid HM3.out.below
  have HX3 : Hid (u3.cell? ⟨w.heap.size, 0, none⟩ = some (.pointer (some ⟨p, 0, none⟩))) := Lib.hid (blk_cell (HM3.out.get 0 rfl) 0)
  have HX5 : Hid (u3.heap[(w.heap.size + 1)]? = some (.cells #[.int .i64 hi, .int .u64 (hk : Int)] 32 (0, 0))) := Lib.hid (HM3.out.get 1 rfl)
  have HX7 : Hid (u3.cell? ⟨b7, 0, none⟩ = some (.slice A L c)) := Lib.hid (blk_cell (HM3.out.get 3 rfl) 0)
  have HXQ : Hid (u3.cell? ⟨q, 0, none⟩ = some (.slice A0 s.has.length c0)) := Lib.hid (blk_cell (HX.out.step HB3.out).blk 0)
  have HX3L : Hid (w.heap.size < u3.heap.size) := Lib.hid (lt_heap (HM3.out.get 0 rfl))
  have HX5L : Hid (w.heap.size + 1 < u3.heap.size) := Lib.hid (lt_heap (HM3.out.get 1 rfl))
  have HX7L : Hid (b7 < u3.heap.size) := Lib.hid (lt_heap (HM3.out.get 3 rfl))
  have HXQL : Hid (q < u3.heap.size) := Lib.hid (lt_heap (HX.out.step HB3.out).blk)
  have hfn : ∀ (lb : Array Value) (W : World), (binOp BinOp.eql 56 (.func (.func g) #[] lb) .nilFunc).run Try.prog W = .ok (.bool false) W := fun lb W => by kernel_rfl
  have HLEN : Hid (∀ W, Below w.heap.size w W → Calls Try.prog 17 #[.pointer (some ⟨p, 0, none⟩)] W (ret (.int .i64 (L : Int)) W)) := Lib.hid fun W hW => by
    have h := (HC.out W hW).1
    rw [← hL] at h
    exact h
  rename_i Kc hKc
  refine wp_region_invG (fun a0 l a W => l.size = 29 ∧ a0.tmps.size = 127 ∧ Below u3.heap.size u3 W ∧ ∃ lb : Array Value, FrU a0 ([(0, 15, .pointer (some ⟨p, 0, none⟩)), (1, 16, .int .i64 (L : Int)), (2, 17, .slice A L c), (3, 18, .int .i64 (L : Int)), (4, 19, .bool false), (5, 20, .bool false), (6, 21, .pointer (some ⟨p, 0, none⟩)), (7, 22, .int .i64 (s.has.length : Int)), (8, 23, .pointer (some ⟨q, 0, none⟩)), (9, 24, .pointer (some ⟨q, 0, none⟩)), (10, 25, .pointer (some ⟨q, 0, none⟩)), (11, 26, .slice A0 s.has.length c0), (12, 27, .int .i64 (s.has.length : Int)), (13, 28, .bool false), (14, 29, .bool false), (15, 30, .bool false), (16, 31, .pointer (some ⟨p, 0, none⟩)), (17, 32, .agg #[.int .i64 hi, .int .u64 (hk : Int)]), (18, 33, .bool (s.live hi hk)), (19, 34, .pointer (some ⟨q, 0, none⟩)), (20, 35, .agg #[.int .i64 hi, .int .u64 (hk : Int)]), (21, 36, .bool (s.live hi hk)), (22, 37, .bool false), (23, 38, .bool false), (24, 39, .bool false), (25, 40, .pointer (some ⟨p, 0, none⟩)), (26, 41, .func (.func g) #[] lb), (27, 42, .bool false), (28, 43, .bool false)] : List (Nat × Nat × Value)) l a) ?_ ?_ ?_ ?_ ?_ ?_
  · kernel_rfl
  · exact fun _ _ _ h => h.1
  · kernel_rfl
  · exact ⟨by simp, rfl, (Below.refl _ _).drew, #[], FrU.start _ _ _⟩
  · intro l a W i5 o hI ho hn hdep
    obtain ⟨hl, hsz, hB, lb, hF⟩ := hI
    match i5, ho, hn with
    | 0, ho, hn =>
      simp only [List.getElem?_toArray, List.getElem?_cons_zero, Option.some.injEq] at ho
      subst ho
      refine ⟨rfl, ?_⟩
      have h3 : a.tmps[3]?.getD undef = .pointer (some ⟨w.heap.size, 0, none⟩) := hF.base 3 (by simp) rfl
      have hx := (hB.cell (p := ⟨w.heap.size, 0, none⟩) HX3L.out).trans HX3.out
      exact owp_value (.pointer (some ⟨p, 0, none⟩)) (w' := W) (by clear hdep; go_simp) ⟨by simp [hl], hsz, hB, lb, hF.put 0 15 _ (by rw [hsz]; decide) (by simp) (by simp) (by simp)⟩
    | 1, ho, hn =>
      simp only [List.getElem?_toArray, List.getElem?_cons_zero, List.getElem?_cons_succ, Option.some.injEq] at ho
      subst ho
      refine ⟨rfl, ?_⟩
      have h15 := hF.slot (i := 0) (s := 15) (v := .pointer (some ⟨p, 0, none⟩)) (by simp) (hdep ⟨0, .data⟩ (by simp) rfl)
      refine owp_call (fn := 17) (args := #[.pointer (some ⟨p, 0, none⟩)]) (by clear hdep; go_simp) ?_
      refine (HLEN.out W (HB3.out.trans (hB.mono HB3.out.size))).mono ?_
      rintro e w' ⟨rfl, hb⟩
      exact ⟨_, rfl, by simp [hl], hsz, hB.trans (hb.mono hB.size), lb, hF.put 1 16 _ (by rw [hsz]; decide) (by simp) (by simp) (by simp)⟩
    | 2, ho, hn =>
      simp only [List.getElem?_toArray, List.getElem?_cons_zero, List.getElem?_cons_succ, Option.some.injEq] at ho
      subst ho
      refine ⟨rfl, ?_⟩
      have h7 : a.tmps[7]?.getD undef = .pointer (some ⟨b7, 0, none⟩) := hF.base 7 (by simp) rfl
      have hx := (hB.cell (p := ⟨b7, 0, none⟩) HX7L.out).trans HX7.out
      exact owp_value (.slice A L c) (w' := W) (by clear hdep; go_simp) ⟨by simp [hl], hsz, hB, lb, hF.put 2 17 _ (by rw [hsz]; decide) (by simp) (by simp) (by simp)⟩
    | 3, ho, hn =>
      simp only [List.getElem?_toArray, List.getElem?_cons_zero, List.getElem?_cons_succ, Option.some.injEq] at ho
      subst ho
      refine ⟨rfl, ?_⟩
      have h17 := hF.slot (i := 2) (s := 17) (v := .slice A L c) (by simp) (hdep ⟨2, .data⟩ (by simp) rfl)
      exact owp_value (.int .i64 (L : Int)) (w' := W) (by clear hdep; go_simp) ⟨by simp [hl], hsz, hB, lb, hF.put 3 18 _ (by rw [hsz]; decide) (by simp) (by simp) (by simp)⟩
    | 4, ho, hn =>
      simp only [List.getElem?_toArray, List.getElem?_cons_zero, List.getElem?_cons_succ, Option.some.injEq] at ho
      subst ho
      refine ⟨rfl, ?_⟩
      have h16 := hF.slot (i := 1) (s := 16) (v := .int .i64 (L : Int)) (by simp) (hdep ⟨1, .data⟩ (by simp) rfl)
      have h18 := hF.slot (i := 3) (s := 18) (v := .int .i64 (L : Int)) (by simp) (hdep ⟨3, .data⟩ (by simp) rfl)
      exact owp_value (.bool false) (w' := W) (by clear hdep; go_simp) ⟨by simp [hl], hsz, hB, lb, hF.put 4 19 _ (by rw [hsz]; decide) (by simp) (by simp) (by simp)⟩
    | 5, ho, hn =>
      simp only [List.getElem?_toArray, List.getElem?_cons_zero, List.getElem?_cons_succ, Option.some.injEq] at ho
      subst ho
      refine ⟨rfl, ?_⟩
      have h19 := hF.slot (i := 4) (s := 19) (v := .bool false) (by simp) (hdep ⟨4, .data⟩ (by simp) rfl)
      exact owp_value (.bool false) (w' := W) (by clear hdep; go_simp) ⟨by simp [hl], hsz, hB, lb, hF.put 5 20 _ (by rw [hsz]; decide) (by simp) (by simp) (by simp)⟩
    | 6, ho, hn =>
      simp only [List.getElem?_toArray, List.getElem?_cons_zero, List.getElem?_cons_succ, Option.some.injEq] at ho
      subst ho
      refine ⟨wanted_of (j := 5) (s := 20) (b := false) rfl rfl rfl (hF.slot (v := .bool false) (by simp) (hdep ⟨5, .guard⟩ (by simp) rfl)), ?_⟩
      have h3 : a.tmps[3]?.getD undef = .pointer (some ⟨w.heap.size, 0, none⟩) := hF.base 3 (by simp) rfl
      have hx := (hB.cell (p := ⟨w.heap.size, 0, none⟩) HX3L.out).trans HX3.out
      exact owp_value (.pointer (some ⟨p, 0, none⟩)) (w' := W) (by clear hdep; go_simp) ⟨by simp [hl], hsz, hB, lb, hF.put 6 21 _ (by rw [hsz]; decide) (by simp) (by simp) (by simp)⟩
    | 7, ho, hn =>
      simp only [List.getElem?_toArray, List.getElem?_cons_zero, List.getElem?_cons_succ, Option.some.injEq] at ho
      subst ho
      refine ⟨wanted_of (j := 5) (s := 20) (b := false) rfl rfl rfl (hF.slot (v := .bool false) (by simp) (hdep ⟨5, .guard⟩ (by simp) rfl)), ?_⟩
      have h21 := hF.slot (i := 6) (s := 21) (v := .pointer (some ⟨p, 0, none⟩)) (by simp) (hdep ⟨6, .data⟩ (by simp) rfl)
      refine owp_call (fn := 19) (args := #[.pointer (some ⟨p, 0, none⟩)]) (by clear hdep; go_simp) ?_
      refine ((HC.out W (HB3.out.trans (hB.mono HB3.out.size))).2.1).mono ?_
      rintro e w' ⟨rfl, hb⟩
      exact ⟨_, rfl, by simp [hl], hsz, hB.trans (hb.mono hB.size), lb, hF.put 7 22 _ (by rw [hsz]; decide) (by simp) (by simp) (by simp)⟩
    | 8, ho, hn =>
      simp only [List.getElem?_toArray, List.getElem?_cons_zero, List.getElem?_cons_succ, Option.some.injEq] at ho
      subst ho
      refine ⟨wanted_of (j := 5) (s := 20) (b := false) rfl rfl rfl (hF.slot (v := .bool false) (by simp) (hdep ⟨5, .guard⟩ (by simp) rfl)), ?_⟩
      have h1 : a.tmps[1]?.getD undef = .pointer (some ⟨q, 0, none⟩) := hF.base 1 (by simp) rfl
      exact owp_value (.pointer (some ⟨q, 0, none⟩)) (w' := W) (by clear hdep; go_simp) ⟨by simp [hl], hsz, hB, lb, hF.put 8 23 _ (by rw [hsz]; decide) (by simp) (by simp) (by simp)⟩
    | 9, ho, hn =>
      simp only [List.getElem?_toArray, List.getElem?_cons_zero, List.getElem?_cons_succ, Option.some.injEq] at ho
      subst ho
      refine ⟨wanted_of (j := 5) (s := 20) (b := false) rfl rfl rfl (hF.slot (v := .bool false) (by simp) (hdep ⟨5, .guard⟩ (by simp) rfl)), ?_⟩
      have h23 := hF.slot (i := 8) (s := 23) (v := .pointer (some ⟨q, 0, none⟩)) (by simp) (hdep ⟨8, .data⟩ (by simp) rfl)
      exact owp_value (.pointer (some ⟨q, 0, none⟩)) (w' := W) (by clear hdep; go_simp) ⟨by simp [hl], hsz, hB, lb, hF.put 9 24 _ (by rw [hsz]; decide) (by simp) (by simp) (by simp)⟩
    | 10, ho, hn =>
      simp only [List.getElem?_toArray, List.getElem?_cons_zero, List.getElem?_cons_succ, Option.some.injEq] at ho
      subst ho
      refine ⟨wanted_of (j := 5) (s := 20) (b := false) rfl rfl rfl (hF.slot (v := .bool false) (by simp) (hdep ⟨5, .guard⟩ (by simp) rfl)), ?_⟩
      have h24 := hF.slot (i := 9) (s := 24) (v := .pointer (some ⟨q, 0, none⟩)) (by simp) (hdep ⟨9, .data⟩ (by simp) rfl)
      exact owp_value (.pointer (some ⟨q, 0, none⟩)) (w' := W) (by clear hdep; go_simp) ⟨by simp [hl], hsz, hB, lb, hF.put 10 25 _ (by rw [hsz]; decide) (by simp) (by simp) (by simp)⟩
    | 11, ho, hn =>
      simp only [List.getElem?_toArray, List.getElem?_cons_zero, List.getElem?_cons_succ, Option.some.injEq] at ho
      subst ho
      refine ⟨wanted_of (j := 5) (s := 20) (b := false) rfl rfl rfl (hF.slot (v := .bool false) (by simp) (hdep ⟨5, .guard⟩ (by simp) rfl)), ?_⟩
      have h25 := hF.slot (i := 10) (s := 25) (v := .pointer (some ⟨q, 0, none⟩)) (by simp) (hdep ⟨10, .data⟩ (by simp) rfl)
      have hx := (hB.cell (p := ⟨q, 0, none⟩) HXQL.out).trans HXQ.out
      exact owp_value (.slice A0 s.has.length c0) (w' := W) (by clear hdep; go_simp) ⟨by simp [hl], hsz, hB, lb, hF.put 11 26 _ (by rw [hsz]; decide) (by simp) (by simp) (by simp)⟩
    | 12, ho, hn =>
      simp only [List.getElem?_toArray, List.getElem?_cons_zero, List.getElem?_cons_succ, Option.some.injEq] at ho
      subst ho
      refine ⟨wanted_of (j := 5) (s := 20) (b := false) rfl rfl rfl (hF.slot (v := .bool false) (by simp) (hdep ⟨5, .guard⟩ (by simp) rfl)), ?_⟩
      have h26 := hF.slot (i := 11) (s := 26) (v := .slice A0 s.has.length c0) (by simp) (hdep ⟨11, .data⟩ (by simp) rfl)
      exact owp_value (.int .i64 (s.has.length : Int)) (w' := W) (by clear hdep; go_simp) ⟨by simp [hl], hsz, hB, lb, hF.put 12 27 _ (by rw [hsz]; decide) (by simp) (by simp) (by simp)⟩
    | 13, ho, hn =>
      simp only [List.getElem?_toArray, List.getElem?_cons_zero, List.getElem?_cons_succ, Option.some.injEq] at ho
      subst ho
      refine ⟨wanted_of (j := 5) (s := 20) (b := false) rfl rfl rfl (hF.slot (v := .bool false) (by simp) (hdep ⟨5, .guard⟩ (by simp) rfl)), ?_⟩
      have h22 := hF.slot (i := 7) (s := 22) (v := .int .i64 (s.has.length : Int)) (by simp) (hdep ⟨7, .data⟩ (by simp) rfl)
      have h27 := hF.slot (i := 12) (s := 27) (v := .int .i64 (s.has.length : Int)) (by simp) (hdep ⟨12, .data⟩ (by simp) rfl)
      exact owp_value (.bool false) (w' := W) (by clear hdep; go_simp) ⟨by simp [hl], hsz, hB, lb, hF.put 13 28 _ (by rw [hsz]; decide) (by simp) (by simp) (by simp)⟩
    | 14, ho, hn =>
      simp only [List.getElem?_toArray, List.getElem?_cons_zero, List.getElem?_cons_succ, Option.some.injEq] at ho
      subst ho
      refine ⟨rfl, ?_⟩
      have h20 := hF.slot (i := 5) (s := 20) (v := .bool false) (by simp) (hdep ⟨5, .data⟩ (by simp) rfl)
      have h28 := hF.slot (i := 13) (s := 28) (v := .bool false) (by simp) (hdep ⟨13, .data⟩ (by simp) rfl)
      exact owp_value (.bool false) (w' := W) (by clear hdep; go_simp) ⟨by simp [hl], hsz, hB, lb, hF.put 14 29 _ (by rw [hsz]; decide) (by simp) (by simp) (by simp)⟩
    | 15, ho, hn =>
      simp only [List.getElem?_toArray, List.getElem?_cons_zero, List.getElem?_cons_succ, Option.some.injEq] at ho
      subst ho
      refine ⟨rfl, ?_⟩
      have h29 := hF.slot (i := 14) (s := 29) (v := .bool false) (by simp) (hdep ⟨14, .data⟩ (by simp) rfl)
      exact owp_value (.bool false) (w' := W) (by clear hdep; go_simp) ⟨by simp [hl], hsz, hB, lb, hF.put 15 30 _ (by rw [hsz]; decide) (by simp) (by simp) (by simp)⟩
    | 16, ho, hn =>
      simp only [List.getElem?_toArray, List.getElem?_cons_zero, List.getElem?_cons_succ, Option.some.injEq] at ho
      subst ho
      refine ⟨wanted_of (j := 15) (s := 30) (b := false) rfl rfl rfl (hF.slot (v := .bool false) (by simp) (hdep ⟨15, .guard⟩ (by simp) rfl)), ?_⟩
      have h3 : a.tmps[3]?.getD undef = .pointer (some ⟨w.heap.size, 0, none⟩) := hF.base 3 (by simp) rfl
      have hx := (hB.cell (p := ⟨w.heap.size, 0, none⟩) HX3L.out).trans HX3.out
      exact owp_value (.pointer (some ⟨p, 0, none⟩)) (w' := W) (by clear hdep; go_simp) ⟨by simp [hl], hsz, hB, lb, hF.put 16 31 _ (by rw [hsz]; decide) (by simp) (by simp) (by simp)⟩
    | 17, ho, hn =>
      simp only [List.getElem?_toArray, List.getElem?_cons_zero, List.getElem?_cons_succ, Option.some.injEq] at ho
      subst ho
      refine ⟨wanted_of (j := 15) (s := 30) (b := false) rfl rfl rfl (hF.slot (v := .bool false) (by simp) (hdep ⟨15, .guard⟩ (by simp) rfl)), ?_⟩
      have h5 : a.tmps[5]?.getD undef = .pointer (some ⟨(w.heap.size + 1), 0, none⟩) := hF.base 5 (by simp) rfl
      have hld := run_loadVar_row W (w.heap.size + 1) 32 32 #[.int .i64 hi, .int .u64 (hk : Int)] (0, 0) _ ((hB.block (w.heap.size + 1) HX5L.out).trans HX5.out) Try.underlying32 rfl (by kernel_rfl)
      refine owp_value (.agg #[.int .i64 hi, .int .u64 (hk : Int)]) (w' := W) ?_ ⟨by simp [hl], hsz, hB, lb, hF.put 17 32 _ (by rw [hsz]; decide) (by simp) (by simp) (by simp)⟩
      clear hdep
      simp only [execOp, Act.eval, Array.getD_eq_getD_getElem?, h5, Instr.loadAt, Instr.sureAddr, Sem.run_bind, Sem.run_pure, Result.andThen_ok, hld]
      all_goals rfl
    | 18, ho, hn =>
      simp only [List.getElem?_toArray, List.getElem?_cons_zero, List.getElem?_cons_succ, Option.some.injEq] at ho
      subst ho
      refine ⟨wanted_of (j := 15) (s := 30) (b := false) rfl rfl rfl (hF.slot (v := .bool false) (by simp) (hdep ⟨15, .guard⟩ (by simp) rfl)), ?_⟩
      have h31 := hF.slot (i := 16) (s := 31) (v := .pointer (some ⟨p, 0, none⟩)) (by simp) (hdep ⟨16, .data⟩ (by simp) rfl)
      have h32 := hF.slot (i := 17) (s := 32) (v := .agg #[.int .i64 hi, .int .u64 (hk : Int)]) (by simp) (hdep ⟨17, .data⟩ (by simp) rfl)
      refine owp_call (fn := 18) (args := #[.pointer (some ⟨p, 0, none⟩), .agg #[.int .i64 hi, .int .u64 (hk : Int)]]) (by clear hdep; go_simp) ?_
      refine ((HC.out W (HB3.out.trans (hB.mono HB3.out.size))).2.2.1 hi hk).mono ?_
      rintro e w' ⟨rfl, hb⟩
      exact ⟨_, rfl, by simp [hl], hsz, hB.trans (hb.mono hB.size), lb, hF.put 18 33 _ (by rw [hsz]; decide) (by simp) (by simp) (by simp)⟩
    | 19, ho, hn =>
      simp only [List.getElem?_toArray, List.getElem?_cons_zero, List.getElem?_cons_succ, Option.some.injEq] at ho
      subst ho
      refine ⟨wanted_of (j := 15) (s := 30) (b := false) rfl rfl rfl (hF.slot (v := .bool false) (by simp) (hdep ⟨15, .guard⟩ (by simp) rfl)), ?_⟩
      have h1 : a.tmps[1]?.getD undef = .pointer (some ⟨q, 0, none⟩) := hF.base 1 (by simp) rfl
      exact owp_value (.pointer (some ⟨q, 0, none⟩)) (w' := W) (by clear hdep; go_simp) ⟨by simp [hl], hsz, hB, lb, hF.put 19 34 _ (by rw [hsz]; decide) (by simp) (by simp) (by simp)⟩
    | 20, ho, hn =>
      simp only [List.getElem?_toArray, List.getElem?_cons_zero, List.getElem?_cons_succ, Option.some.injEq] at ho
      subst ho
      refine ⟨wanted_of (j := 15) (s := 30) (b := false) rfl rfl rfl (hF.slot (v := .bool false) (by simp) (hdep ⟨15, .guard⟩ (by simp) rfl)), ?_⟩
      have h5 : a.tmps[5]?.getD undef = .pointer (some ⟨(w.heap.size + 1), 0, none⟩) := hF.base 5 (by simp) rfl
      have hld := run_loadVar_row W (w.heap.size + 1) 32 32 #[.int .i64 hi, .int .u64 (hk : Int)] (0, 0) _ ((hB.block (w.heap.size + 1) HX5L.out).trans HX5.out) Try.underlying32 rfl (by kernel_rfl)
      refine owp_value (.agg #[.int .i64 hi, .int .u64 (hk : Int)]) (w' := W) ?_ ⟨by simp [hl], hsz, hB, lb, hF.put 20 35 _ (by rw [hsz]; decide) (by simp) (by simp) (by simp)⟩
      clear hdep
      simp only [execOp, Act.eval, Array.getD_eq_getD_getElem?, h5, Instr.loadAt, Instr.sureAddr, Sem.run_bind, Sem.run_pure, Result.andThen_ok, hld]
      all_goals rfl
    | 21, ho, hn =>
      simp only [List.getElem?_toArray, List.getElem?_cons_zero, List.getElem?_cons_succ, Option.some.injEq] at ho
      subst ho
      refine ⟨wanted_of (j := 15) (s := 30) (b := false) rfl rfl rfl (hF.slot (v := .bool false) (by simp) (hdep ⟨15, .guard⟩ (by simp) rfl)), ?_⟩
      have h34 := hF.slot (i := 19) (s := 34) (v := .pointer (some ⟨q, 0, none⟩)) (by simp) (hdep ⟨19, .data⟩ (by simp) rfl)
      have h35 := hF.slot (i := 20) (s := 35) (v := .agg #[.int .i64 hi, .int .u64 (hk : Int)]) (by simp) (hdep ⟨20, .data⟩ (by simp) rfl)
      refine owp_call (fn := 24) (args := #[.pointer (some ⟨q, 0, none⟩), .agg #[.int .i64 hi, .int .u64 (hk : Int)]]) (by clear hdep; go_simp) ?_
      refine (HRL.out W (HB3.out.trans (hB.mono HB3.out.size))).mono ?_
      rintro e w' ⟨rfl, hb⟩
      exact ⟨_, rfl, by simp [hl], hsz, hB.trans (hb.mono hB.size), lb, hF.put 21 36 _ (by rw [hsz]; decide) (by simp) (by simp) (by simp)⟩
    | 22, ho, hn =>
      simp only [List.getElem?_toArray, List.getElem?_cons_zero, List.getElem?_cons_succ, Option.some.injEq] at ho
      subst ho
      refine ⟨wanted_of (j := 15) (s := 30) (b := false) rfl rfl rfl (hF.slot (v := .bool false) (by simp) (hdep ⟨15, .guard⟩ (by simp) rfl)), ?_⟩
      have h33 := hF.slot (i := 18) (s := 33) (v := .bool (s.live hi hk)) (by simp) (hdep ⟨18, .data⟩ (by simp) rfl)
      have h36 := hF.slot (i := 21) (s := 36) (v := .bool (s.live hi hk)) (by simp) (hdep ⟨21, .data⟩ (by simp) rfl)
      exact owp_value (.bool false) (w' := W) (by clear hdep; go_simp) ⟨by simp [hl], hsz, hB, lb, hF.put 22 37 _ (by rw [hsz]; decide) (by simp) (by simp) (by simp)⟩
    | 23, ho, hn =>
      simp only [List.getElem?_toArray, List.getElem?_cons_zero, List.getElem?_cons_succ, Option.some.injEq] at ho
      subst ho
      refine ⟨rfl, ?_⟩
      have h30 := hF.slot (i := 15) (s := 30) (v := .bool false) (by simp) (hdep ⟨15, .data⟩ (by simp) rfl)
      have h37 := hF.slot (i := 22) (s := 37) (v := .bool false) (by simp) (hdep ⟨22, .data⟩ (by simp) rfl)
      exact owp_value (.bool false) (w' := W) (by clear hdep; go_simp) ⟨by simp [hl], hsz, hB, lb, hF.put 23 38 _ (by rw [hsz]; decide) (by simp) (by simp) (by simp)⟩
    | 24, ho, hn =>
      simp only [List.getElem?_toArray, List.getElem?_cons_zero, List.getElem?_cons_succ, Option.some.injEq] at ho
      subst ho
      refine ⟨rfl, ?_⟩
      have h38 := hF.slot (i := 23) (s := 38) (v := .bool false) (by simp) (hdep ⟨23, .data⟩ (by simp) rfl)
      exact owp_value (.bool false) (w' := W) (by clear hdep; go_simp) ⟨by simp [hl], hsz, hB, lb, hF.put 24 39 _ (by rw [hsz]; decide) (by simp) (by simp) (by simp)⟩
    | 25, ho, hn =>
      simp only [List.getElem?_toArray, List.getElem?_cons_zero, List.getElem?_cons_succ, Option.some.injEq] at ho
      subst ho
      refine ⟨wanted_of (j := 24) (s := 39) (b := false) rfl rfl rfl (hF.slot (v := .bool false) (by simp) (hdep ⟨24, .guard⟩ (by simp) rfl)), ?_⟩
      have h3 : a.tmps[3]?.getD undef = .pointer (some ⟨w.heap.size, 0, none⟩) := hF.base 3 (by simp) rfl
      have hx := (hB.cell (p := ⟨w.heap.size, 0, none⟩) HX3L.out).trans HX3.out
      exact owp_value (.pointer (some ⟨p, 0, none⟩)) (w' := W) (by clear hdep; go_simp) ⟨by simp [hl], hsz, hB, lb, hF.put 25 40 _ (by rw [hsz]; decide) (by simp) (by simp) (by simp)⟩
    | 26, ho, hn =>
      simp only [List.getElem?_toArray, List.getElem?_cons_zero, List.getElem?_cons_succ, Option.some.injEq] at ho
      subst ho
      refine ⟨wanted_of (j := 24) (s := 39) (b := false) rfl rfl rfl (hF.slot (v := .bool false) (by simp) (hdep ⟨24, .guard⟩ (by simp) rfl)), ?_⟩
      have h40 := hF.slot (i := 25) (s := 40) (v := .pointer (some ⟨p, 0, none⟩)) (by simp) (hdep ⟨25, .data⟩ (by simp) rfl)
      refine owp_call (fn := 20) (args := #[.pointer (some ⟨p, 0, none⟩)]) (by clear hdep; go_simp) ?_
      refine ((HC.out W (HB3.out.trans (hB.mono HB3.out.size))).2.2.2.2).mono ?_
      rintro e w' ⟨lb, Fi, rfl, hb, _, _⟩
      exact ⟨_, rfl, by simp [hl], hsz, hB.trans (hb.mono hB.size), lb, hF.put 26 41 _ (by rw [hsz]; decide) (by simp) (by simp) (by simp)⟩
    | 27, ho, hn =>
      simp only [List.getElem?_toArray, List.getElem?_cons_zero, List.getElem?_cons_succ, Option.some.injEq] at ho
      subst ho
      refine ⟨wanted_of (j := 24) (s := 39) (b := false) rfl rfl rfl (hF.slot (v := .bool false) (by simp) (hdep ⟨24, .guard⟩ (by simp) rfl)), ?_⟩
      have h41 := hF.slot (i := 26) (s := 41) (v := .func (.func g) #[] lb) (by simp) (hdep ⟨26, .data⟩ (by simp) rfl)
      exact owp_value (.bool false) (w' := W) (by clear hdep; go_simp) ⟨by simp [hl], hsz, hB, lb, hF.put 27 42 _ (by rw [hsz]; decide) (by simp) (by simp) (by simp)⟩
    | 28, ho, hn =>
      simp only [List.getElem?_toArray, List.getElem?_cons_zero, List.getElem?_cons_succ, Option.some.injEq] at ho
      subst ho
      refine ⟨rfl, ?_⟩
      have h39 := hF.slot (i := 24) (s := 39) (v := .bool false) (by simp) (hdep ⟨24, .data⟩ (by simp) rfl)
      have h42 := hF.slot (i := 27) (s := 42) (v := .bool false) (by simp) (hdep ⟨27, .data⟩ (by simp) rfl)
      exact owp_value (.bool false) (w' := W) (by clear hdep; go_simp) ⟨by simp [hl], hsz, hB, lb, hF.put 28 43 _ (by rw [hsz]; decide) (by simp) (by simp) (by simp)⟩
    | i5 + 29, ho, hn => simp at ho
  · intro l a W1 hI hall
    obtain ⟨hl, hsz, hB, lb, hF⟩ := hI
    have hall : ∀ i, i < 29 → l.getD i false = true := hall
    have ha := hF.all (by simp only [List.mem_cons, List.not_mem_nil, or_false]; rintro x (rfl | rfl | rfl | rfl | rfl | rfl | rfl | rfl | rfl | rfl | rfl | rfl | rfl | rfl | rfl | rfl | rfl | rfl | rfl | rfl | rfl | rfl | rfl | rfl | rfl | rfl | rfl | rfl | rfl) <;> exact hall _ (by dsimp only; decide)) (by simp) (by rw [hsz]; simp)
    subst ha
    have HB9 := Lib.hid hB
    clear hF hall hl hsz hB
    refine hKc _ _ ?_
    simp only [setAll, List.setIfInBounds_toArray, List.set_cons_succ, List.set_cons_zero]
    clear hL
    have HM4 := Lib.hid (HM3.out.step HB9.out)
    have HB24 := Lib.hid (HB23.out.trans (HB9.out.mono HB23.out.size))
    clear HB9 HM3 HX3 HX5 HX7 HXQ HX3L HX5L HX7L HXQL HRL HLEN hfn HB23
    generalize W1 = u4 at *
    go_upto_region 5 with fail
    obtain ⟨b8, hb8⟩ : ∃ b, b = u4.heap.size := ⟨_, rfl⟩
    have HB78 : Hid (b7 < b8) := Lib.hid (by rw [hb8]; exact lt_heap (HM4.out.get 3 rfl))
    have HB25 : Hid (Below u2.heap.size u2 (u4.alloc (.cells #[.int .i64 0] 3))) := Lib.hid (HB24.out.alloc HB24.out.size _)
    have HM5 : Hid (Mem w (u4.alloc (.cells #[.int .i64 0] 3)) [(w.heap.size, .cells #[.pointer (some ⟨p, 0, none⟩)] 24 (0, 0)), (w.heap.size + 1, .cells #[.int .i64 hi, .int .u64 (hk : Int)] 32 (0, 0)), (w.heap.size + 2, .cells #[.bool false] 4 (0, 0)), (b7, .cells #[.slice A L c] 45 (0, 0)), (b8, .cells #[.int .i64 0] 3 (0, 0))]) := Lib.hid (by
      have h := HM4.out.alloc (.cells #[.int .i64 0] 3)
      rw [← hb8] at h
      exact h)
    rw [← hb8]
    clear hb8 HM4
    generalize u4.alloc (.cells #[.int .i64 0] 3) = u5 at *
    have x3 : u5.cell? ⟨w.heap.size, 0, none⟩ = some (.pointer (some ⟨p, 0, none⟩)) := blk_cell (HM5.out.get 0 rfl) 0
    go_wp2_with (first
      | (go_at_call 20
         refine (HC.out u5 HM5.out.below).2.2.2.2.mono ?_
         rintro e u6 ⟨lb6, Fi, rfl, hb, hFi, hst⟩
         have HM6 := Lib.hid (HM5.out.step hb)
         have HFi := Lib.hid hFi
         have HST := Lib.hid hst
         have HB56 := Lib.hid hb.size
         have HB26 := Lib.hid (HB25.out.trans (hb.mono HB25.out.size))
         have HB8 : Hid (w.heap.size ≤ b8 ∧ b8 < u5.heap.size) := Lib.hid ⟨HM5.out.low 4 rfl, lt_heap (HM5.out.get 4 rfl)⟩
         clear hb hFi hst HM5 x3))
    have hRb : ∀ k, Fi k → ¬ (k = b8 ∨ u6.heap.size ≤ k) := fun k hk hr => by
      obtain ⟨h1, h2⟩ := HFi.out k hk
      obtain ⟨h3, h4⟩ := HB8.out
      omega
    refine wpIn_wide (n := 13).1 ?_
    refine wpIn_rangeFunc_ownH rfl (by omega) (gf := g) (lb := lb6) rfl trivial eg (HST.out (fun k => k = b8 ∨ u6.heap.size ≤ k) hRb) keptK_t (keptK_b fun _ h => .inr h) (Below.refl _ _) (fun _ => rfl)
      (fun pre W => Boxed W b8 3 (.int .i64 (pre.length : Int)) ∧ Kept (fun k => k = b8) u6 W)
      (fun _ xs W => ¬ xs <+: s.told s.has.length)
      (OwnFrom.and (Own.from (boxed_own b8 3 (fun pre : List (Nat × Nat) => Value.int .i64 (pre.length : Int))) _) (ownFrom_kept (Nat.le_refl _)))
      (fun _ => ownFrom_pure _ _)
      ⟨HM6.out.get 4 rfl, Kept.refl _ _⟩
      (fun x a' W => ∃ Bx, u6.heap.size ≤ Bx ∧ W.heap[Bx]? = some (.cells #[.int .i64 (x.1 : Int), .int .u64 (x.2 : Int)] 32 (0, 0)) ∧ a' = { tmps := #[.pointer (some ⟨p, 0, none⟩), .pointer (some ⟨q, 0, none⟩), .agg #[.int .i64 hi, .int .u64 (hk : Int)], .pointer (some ⟨w.heap.size, 0, none⟩), undef, .pointer (some ⟨(w.heap.size + 1), 0, none⟩), .pointer (some ⟨(w.heap.size + 2), 0, none⟩), .pointer (some ⟨b7, 0, none⟩), .pointer (some ⟨b8, 0, none⟩), .pointer (some ⟨Bx, 0, none⟩), undef, undef, undef, .pointer (some ⟨q, 0, none⟩), .slice A L c, .pointer (some ⟨p, 0, none⟩), .int .i64 (L : Int), .slice A L c, .int .i64 (L : Int), .bool false, .bool false, .pointer (some ⟨p, 0, none⟩), .int .i64 (s.has.length : Int), .pointer (some ⟨q, 0, none⟩), .pointer (some ⟨q, 0, none⟩), .pointer (some ⟨q, 0, none⟩), .slice A0 s.has.length c0, .int .i64 (s.has.length : Int), .bool false, .bool false, .bool false, .pointer (some ⟨p, 0, none⟩), .agg #[.int .i64 hi, .int .u64 (hk : Int)], .bool (s.live hi hk), .pointer (some ⟨q, 0, none⟩), .agg #[.int .i64 hi, .int .u64 (hk : Int)], .bool (s.live hi hk), .bool false, .bool false, .bool false, .pointer (some ⟨p, 0, none⟩), .func (.func g) #[] lb, .bool false, .bool false, .pointer (some ⟨p, 0, none⟩), .func (.func g) #[] lb6, .agg #[.int .i64 (x.1 : Int), .int .u64 (x.2 : Int)], undef, undef, undef, undef, undef, undef, undef, undef, undef, undef, undef, undef, undef, undef, undef, undef, undef, undef, undef, undef, undef, undef, undef, undef, undef, undef, undef, undef, undef, undef, undef, undef, undef, undef, undef, undef, undef, undef, undef, undef, undef, undef, undef, undef, undef, undef, undef, undef, undef, undef, undef, undef, undef, undef, undef, undef, undef, undef, undef, undef, undef, undef, undef, undef, undef, undef, undef, undef, undef, undef, undef, undef, undef, undef, undef, undef, undef, undef, undef, undef], defers := [] })
      (fun x a' _ X Y row hs hg hr => by obtain ⟨Bx, h1, h2, h3⟩ := hs; exact ⟨Bx, h1, (grownBy_keeps_cells hg (fun r e => (hr r e).2) h2 rfl).trans h2, h3⟩)
      ?assign ?body ?done ?stop
    case assign =>
      rintro l pre x W K ⟨hb1, hk1⟩ hK
      unfold hEnc
      gi_wp2
      exact hK _ _ ((KeepsOthers.alloc _ _).from _) ((Kept.refl _ W).alloc _) ⟨hb1.alloc _, hk1.alloc _⟩ ⟨W.heap.size, hk1.size, heap_alloc_new W _, rfl⟩
    case body =>
      rintro l pre x a' W hl ⟨r, hr⟩ ⟨bN, hk1⟩ ⟨Bx, hBx, bX, rfl⟩ hlt
      have hb37 := HB37.out
      have hb78 := HB78.out
      have hb6 := lt_heap (HM6.out.get 4 rfl)
      have hu26 := HB26.out.size
      have hb7' := HB7.out
      have x8 : ∀ V : Stay W, V.w.cell? ⟨b8, 0, none⟩ = some (.int .i64 (pre.length : Int)) := fun V => Stay.cell bN.cell V
      have x7 : ∀ V : Stay W, V.w.cell? ⟨b7, 0, none⟩ = some (.slice A L c) := fun V => Stay.cell ((hk1.cell (p := ⟨b7, 0, none⟩) (by show b7 < _; omega) (by show ¬ b7 = b8; omega)).trans (blk_cell (HM6.out.get 3 rfl) 0)) V
      have x3 : ∀ V : Stay W, V.w.cell? ⟨w.heap.size, 0, none⟩ = some (.pointer (some ⟨p, 0, none⟩)) := fun V => Stay.cell ((hk1.cell (p := ⟨w.heap.size, 0, none⟩) (by show w.heap.size < _; omega) (by show ¬ w.heap.size = b8; omega)).trans (blk_cell (HM6.out.get 0 rfl) 0)) V
      have HXX := Lib.hid (stay_hp bX)
      have hlen : pre.length < L := by have := HL.out; omega
      have hge : decide ((L : Int) ≤ (pre.length : Int)) = false := by simp; omega
      have hge2 : decide (L ≤ pre.length) = false := by simp; omega
      have hge3 : decide ((pre.length : Int) ≥ (L : Int)) = false := by simp; omega
      obtain ⟨b, off, rfl, hbb, hcc⟩ := rdc_pos HRD.out (by omega)
      obtain ⟨y, hat⟩ : ∃ y, (s.told s.has.length)[pre.length]? = some y := ⟨_, List.getElem?_eq_getElem hlt⟩
      have hrg : W.rangeAt b (off + pre.length * 2) (#[.int .i64 (y.1 : Int), .int .u64 (y.2 : Int)] : Array Value).toList := fun j v hv => by
        have hj : j < 2 := by
          rcases Nat.lt_or_ge j 2 with q | q
          · exact q
          · rw [List.getElem?_eq_none (by simpa using q)] at hv; cases hv
        have hc := hcc (pre.length * 2 + j) (by omega)
        rw [Nat.add_assoc]
        refine (hk1.cell (p := ⟨b, off + (pre.length * 2 + j), none⟩) (by show b < _; omega) (by show ¬ b = b8; omega)).trans ((HB26.out.cell (p := ⟨b, off + (pre.length * 2 + j), none⟩) hbb).trans (hc.trans ?_))
        rw [← hv]
        exact tcell_at hat hj
      have HRG := Lib.hid (stay_rng (by show b < W.heap.size; have := hk1.size; omega) hrg)
      have hix : ∀ V : World, (Instr.indexAt 45 (.slice (some ⟨b, off, none⟩) L c) (.int .i64 (pre.length : Int))).run Try.prog V = .ok (.pointer (some ⟨b, off + pre.length * 2, none⟩)) V := fun V => by
        have i0 : (0 : Int) ≤ (pre.length : Int) := by omega
        have i1 : (pre.length : Int) < (L : Int) := by omega
        have i2 : ((pre.length : Int)).toNat = pre.length := by omega
        go_simp
      have KF : ∀ V : Stay W, Hid (KeepsFrom u6.heap.size W V.w) := fun V => Lib.hid ⟨V.below.size, fun k o _ hk _ => (V.below.block k (Array.getElem?_eq_some_iff.1 hk).1).trans hk⟩
      clear hrg hcc hbb
      by_cases hxy : y = x
      · subst hxy
        have hne : ∀ V : World, (binOp .neq 32 (.agg #[.int .i64 (y.1 : Int), .int .u64 (y.2 : Int)]) (.agg #[.int .i64 (y.1 : Int), .int .u64 (y.2 : Int)])).run Try.prog V = .ok (.bool false) V := fun V => by rw [neqH]; simp
        have HWB : Hid (Below w.heap.size w W) := Lib.hid (HM6.out.below.trans (hk1.below HM6.out.below.size fun k e => by rw [e]; exact HB8.out.1))
        have hlive : s.live (y.1 : Int) y.2 = true := (Ar.told_live (List.mem_of_getElem? hat)).2.2
        have HLV : Hid (∀ V : Stay W, Calls Try.prog 18 #[.pointer (some ⟨p, 0, none⟩), .agg #[.int .i64 (y.1 : Int), .int .u64 (y.2 : Int)]] V.w fun e w' => e = .returned (.bool true) ∧ Below V.w.heap.size V.w w') := Lib.hid fun V => by
          have h := (HC.out V.w (HWB.out.trans (V.below.mono HWB.out.size))).2.2.1 (y.1 : Int) y.2
          rw [hlive] at h
          exact h
        have zw : IntKind.i64.wrap ((pre.length : Int) + 1) = (pre.length : Int) + 1 := by
          have := s.told_len s.has.length
          rw [IntKind.wrap_i64]
          omega
        clear hlive hat hb7' hu26
        gi_wp2
        refine wpIn_region_stay (by kernel_rfl) (by kernel_rfl) (by kernel_rfl) ?_
        repeat (first
          | (refine qh_row rfl 32 (.tmp 9) rfl Bx rfl 32 #[.int .i64 (y.1 : Int), .int .u64 (y.2 : Int)] (0, 0) _ HXX.out Try.underlying32 rfl (by kernel_rfl) ?_
             simp only [Act.put, List.setIfInBounds_toArray, List.set_cons_zero, List.set_cons_succ])
          | (refine qh_mid rfl 32 (.tmp 55) rfl b (off + pre.length * 2) rfl #[.int .i64 (y.1 : Int), .int .u64 (y.2 : Int)] _ HRG.out Try.underlying32 rfl (by kernel_rfl) ?_
             simp only [Act.put, List.setIfInBounds_toArray, List.set_cons_zero, List.set_cons_succ])
          | go_big_quiet_step (first | (go_at_call 18; with_reducible exact Calls.stay _ (HLV.out _))))
        refine wpQuiet_nil ?_
        intro w' hw'
        obtain ⟨V, rfl⟩ := hw'
        have bV : Boxed V.w b8 3 (.int .i64 (pre.length : Int)) := (V.below.block b8 (by have := hk1.size; omega)).trans bN
        have HBV := Lib.hid bV
        have c8 := bV.cell
        have f8 := bV.frozen
        clear bV bN
        gi_wp2
        refine ⟨(KF V).out.trans ((KeepsOthers.setCell _ _ _).from _), (Kept.of_below V.below _).setCell (p := ⟨b8, 0, none⟩) (.inl (.inl rfl)) _, ?_, (hk1.step V.below).setCell (p := ⟨b8, 0, none⟩) (.inl rfl) _⟩
        have e : ((pre ++ [y]).length : Int) = (pre.length : Int) + 1 := by simp
        rw [e]
        exact blk_set HBV.out 0 _
      · have hne : ∀ V : World, (binOp .neq 32 (.agg #[.int .i64 (x.1 : Int), .int .u64 (x.2 : Int)]) (.agg #[.int .i64 (y.1 : Int), .int .u64 (y.2 : Int)])).run Try.prog V = .ok (.bool true) V := fun V => by
          have q : ((x.1 : Int) == (y.1 : Int) && (x.2 : Int) == (y.2 : Int)) = false := by
            rw [Bool.eq_false_iff]
            intro h
            rw [Bool.and_eq_true, beq_iff_eq, beq_iff_eq] at h
            exact hxy (Prod.ext (by omega) (by omega))
          rw [neqH, q]
          rfl
        have hno : ¬ pre ++ [x] <+: s.told s.has.length := by
          rintro ⟨t, ht⟩
          rw [← ht, List.append_assoc, List.getElem?_append_right (Nat.le_refl _), Nat.sub_self] at hat
          injection hat with hat
          exact hxy hat.symm
        clear hat hb7' hu26
        gi_wp2
        refine wpIn_region_stay (by kernel_rfl) (by kernel_rfl) (by kernel_rfl) ?_
        repeat (first
          | (refine qh_row rfl 32 (.tmp 9) rfl Bx rfl 32 #[.int .i64 (x.1 : Int), .int .u64 (x.2 : Int)] (0, 0) _ HXX.out Try.underlying32 rfl (by kernel_rfl) ?_
             simp only [Act.put, List.setIfInBounds_toArray, List.set_cons_zero, List.set_cons_succ])
          | (refine qh_mid rfl 32 (.tmp 55) rfl b (off + pre.length * 2) rfl #[.int .i64 (y.1 : Int), .int .u64 (y.2 : Int)] _ HRG.out Try.underlying32 rfl (by kernel_rfl) ?_
             simp only [Act.put, List.setIfInBounds_toArray, List.set_cons_zero, List.set_cons_succ])
          | go_big_quiet_step (fail))
        refine wpQuiet_nil ?_
        intro w' hw'
        obtain ⟨V, rfl⟩ := hw'
        have h6 : V.w.heap[(w.heap.size + 2)]? = some (.cells #[.bool false] 4 (0, 0)) := (V.below.block _ (by have := hk1.size; omega)).trans ((hk1.block _ (by omega) (by omega)).trans (HM6.out.get 2 rfl))
        have c6 := blk_cell h6 0
        have f6 := blk_free h6 0
        clear h6
        gi_wp2
        exact ⟨(KF V).out.trans ((KeepsOthers.setCell _ _ _).from _), hno⟩
    case stop =>
      rintro D c pre W _ hpre h _
      exact absurd hpre h
    case done =>
      rintro D ys W hD rfl ⟨bN, hk1⟩ hK
      have hb37 := HB37.out
      have hb78 := HB78.out
      have hb6 := lt_heap (HM6.out.get 4 rfl)
      have HK := Lib.hid hK
      have HBN := Lib.hid bN
      have HWB : Hid (Below w.heap.size w W) := Lib.hid (HM6.out.below.trans (hk1.below HM6.out.below.size fun k e => by rw [e]; exact HB8.out.1))
      have H6 : Hid (W.heap[(w.heap.size + 2)]? = some (.cells #[.bool false] 4 (0, 0))) := Lib.hid ((hk1.block _ (by omega) (by omega)).trans (HM6.out.get 2 rfl))
      have H7 : Hid (W.heap[b7]? = some (.cells #[.slice A L c] 45 (0, 0))) := Lib.hid ((hk1.block _ (by omega) (by omega)).trans (HM6.out.get 3 rfl))
      have H3 : Hid (W.heap[w.heap.size]? = some (.cells #[.pointer (some ⟨p, 0, none⟩)] 24 (0, 0))) := Lib.hid ((hk1.block _ (by omega) (by omega)).trans (HM6.out.get 0 rfl))
      have HD : Hid (w.heap.size ≤ D) := Lib.hid (by have := HM6.out.below.size; omega)
      clear bN hK hk1 hD
      go_wp2_with fail
      go_loopw [10] (fun i wr => ∃ k : Nat, k ≤ s.has.length + 2 ∧ i = .int .i64 ((k : Int) - 1) ∧ Below W.heap.size W wr) (fun i _ => s.has.length + 2 - (intOf i + 1).toNat)
      case atStart => exact ⟨0, by omega, rfl, Below.refl _ _⟩
      case round =>
        obtain ⟨k, hk, rfl, hb⟩ := hrel
        have HB := Lib.hid hb
        have HW2 := Lib.hid (HWB.out.trans (hb.mono HWB.out.size))
        have HXQ0 : Hid (w.cell? ⟨q, 0, none⟩ = some (.slice A0 s.has.length c0)) := Lib.hid (blk_cell HX.out.blk 0)
        have x3 : wr.cell? ⟨w.heap.size, 0, none⟩ = some (.pointer (some ⟨p, 0, none⟩)) := blk_cell ((HB.out.block _ (lt_heap H3.out)).trans H3.out) 0
        have xq : wr.cell? ⟨q, 0, none⟩ = some (.slice A0 s.has.length c0) := (HW2.out.cell (p := ⟨q, 0, none⟩) HQ.out).trans HXQ0.out
        clear hb
        cases k with
        | zero =>
          rw [show (((0 : Nat) : Int) - 1) = -1 from rfl]
          have isE : s.is_ (-1) = false := rfl
          have hatE : s.hat (-1) = #[.int .i64 0, .int .u64 0] := rfl
          have d1 : decide ((-1 : Int) ≤ (s.has.length : Int)) = true := decide_eq_true (by omega)
          have hne : ∀ V : World, (binOp .neq 32 (.agg #[.int .i64 0, .int .u64 0]) (.agg #[.int .i64 0, .int .u64 0])).run Try.prog V = .ok (.bool false) V := fun V => by rw [neqH]; rfl
          have HAT : Hid (∀ V, Below w.heap.size w V → Calls Try.prog 13 #[.pointer (some ⟨p, 0, none⟩), .int .i64 (-1)] V (ret (.tuple #[.agg #[.int .i64 0, .int .u64 0], .bool false]) V)) := Lib.hid fun V hV => by
            have h := (HC.out V hV).2.2.2.1 (-1)
            rw [hatE, isE] at h
            exact h
          clear hatE isE
          go_wp2_with (first
            | (go_at_call 13
               refine (HAT.out wr HW2.out).mono ?_
               rintro e v1 ⟨rfl, hb1⟩
               have HW3 : Hid (Below w.heap.size w (v1.alloc (.cells #[.int .i64 0, .int .u64 0] 32))) := Lib.hid ((HW2.out.trans (hb1.mono HW2.out.size)).alloc (HW2.out.trans (hb1.mono HW2.out.size)).size _)
               have HV3 : Hid (Below W.heap.size W (v1.alloc (.cells #[.int .i64 0, .int .u64 0] 32))) := Lib.hid ((HB.out.trans (hb1.mono HB.out.size)).alloc (HB.out.trans (hb1.mono HB.out.size)).size _)
               have HX11 : Hid ((v1.alloc (.cells #[.int .i64 0, .int .u64 0] 32)).heap[v1.heap.size]? = some (.cells #[.int .i64 0, .int .u64 0] 32 (0, 0))) := Lib.hid (heap_alloc_new v1 _)
               have xq1 : (v1.alloc (.cells #[.int .i64 0, .int .u64 0] 32)).cell? ⟨q, 0, none⟩ = some (.slice A0 s.has.length c0) := (HW3.out.cell (p := ⟨q, 0, none⟩) HQ.out).trans HXQ0.out
               clear hb1 x3 xq)
            | (refine wpList_load_row rfl 32 (.tmp 11) rfl v1.heap.size rfl 32 #[.int .i64 0, .int .u64 0] (0, 0) _ HX11.out Try.underlying32 rfl (by kernel_rfl) ?_)
            | (go_at_call 24
               refine (HRLV.out _ HW3.out (-1) (s.at_ j)).mono ?_
               rintro e v2 ⟨rfl, hb2⟩
               rw [hlv]
               have HV4 := Lib.hid (HV3.out.trans (hb2.mono HV3.out.size))))
          refine ⟨⟨1, by omega, rfl, HV3.out⟩, ?_⟩
          show s.has.length + 2 - ((0 : Int) + 1).toNat < s.has.length + 2 - ((-1 : Int) + 1).toNat
          omega
        | succ j =>
          rw [show (((j + 1 : Nat) : Int) - 1) = (j : Int) by omega]
          have di : decide (0 ≤ (j : Int)) = true := decide_eq_true (by omega)
          have ej : ((j : Int)).toNat = j := by omega
          have zj : IntKind.i64.wrap ((j : Int) + 1) = (j : Int) + 1 := by rw [IntKind.wrap_i64]; omega
          by_cases he : j = s.has.length + 1
          · have d1 : decide ((j : Int) ≤ (s.has.length : Int)) = false := decide_eq_false (by omega)
            have d2 : decide (j ≤ s.has.length) = false := decide_eq_false (by omega)
            have x8 : wr.cell? ⟨b8, 0, none⟩ = some (.int .i64 (L : Int)) := by
              rw [HL.out]
              exact blk_cell ((HB.out.block _ (lt_heap HBN.out)).trans HBN.out) 0
            have x7 : wr.cell? ⟨b7, 0, none⟩ = some (.slice A L c) := blk_cell ((HB.out.block _ (lt_heap H7.out)).trans H7.out) 0
            have h6 := (HB.out.block _ (lt_heap H6.out)).trans H6.out
            have HH6 := Lib.hid h6
            have c6 := blk_cell h6 0
            have f6 := blk_free h6 0
            clear h6
            go_wp2_with fail
            clear x8 x7 x3 xq c6 f6 d1 d2
            have hne : D ≠ w.heap.size + 2 := fun e => by
              have h1 := HK.out
              rw [e, H6.out] at h1
              cases h1
            have hD9 : (wr.setCell ⟨w.heap.size + 2, 0, none⟩ (.bool true)).heap[D]? = some (.deferred (some [])) := blk_far ((HB.out.block D (lt_heap HK.out)).trans HK.out) (p := ⟨w.heap.size + 2, 0, none⟩) hne _
            have hc9 : (wr.setCell ⟨w.heap.size + 2, 0, none⟩ (.bool true)).heap[w.heap.size + 2]? = some (.cells #[.bool true] 4 (0, 0)) := blk_set HH6.out 0 _
            have hg9 := grownBy_putObj' (wr.setCell ⟨w.heap.size + 2, 0, none⟩ (.bool true)) D (.deferred none)
            have hb9 : Below w.heap.size w (wr.setCell ⟨w.heap.size + 2, 0, none⟩ (.bool true)) := HW2.out.setCell (p := ⟨w.heap.size + 2, 0, none⟩) (by show w.heap.size ≤ w.heap.size + 2; omega) _
            refine ⟨by simp, .inl ⟨_, _, rfl, run_takeDeferred hD9, ?_⟩⟩
            refine ⟨.bool true, results_flag rfl _ _ (w.heap.size + 2) true rfl ?_, rfl, hb9.grown hg9 hb9.size fun k e => by injection e with e; subst e; exact HD.out⟩
            exact blk_cell ((hg9.block (w.heap.size + 2) (lt_heap hc9) fun e => hne (by injection e with e; exact e.symm)).trans hc9) 0
          · have d1 : decide ((j : Int) ≤ (s.has.length : Int)) = true := decide_eq_true (by omega)
            by_cases hjn : j < s.has.length
            · have d2 : decide ((j : Int) < (s.has.length : Int)) = true := decide_eq_true (by omega)
              have i0 : (0 : Int) ≤ (j : Int) := by omega
              have i1 : (j : Int) < (s.has.length : Int) := by omega
              rcases HX.out.has with h0 | ⟨b0, off0, rfl, _, hb0, hcl⟩
              · omega
              have HB0 := Lib.hid hb0
              clear hb0
              by_cases hz : s.at_ j = 0
              · have isE : s.is_ (j : Int) = false := by unfold Ar.is_; rw [ej, hz]; simp
                have hatE : s.hat (j : Int) = #[.int .i64 0, .int .u64 0] := by unfold Ar.hat; rw [if_neg (by rw [isE]; decide)]
                have HXB : Hid (w.cell? ⟨b0, off0 + j, none⟩ = some (.int .u64 0)) := Lib.hid ((hcl j hjn).trans (by show some (Value.int .u64 (s.at_ j : Int)) = _; rw [hz]; rfl))
                clear hcl
                have hne : ∀ V : World, (binOp .neq 32 (.agg #[.int .i64 0, .int .u64 0]) (.agg #[.int .i64 0, .int .u64 0])).run Try.prog V = .ok (.bool false) V := fun V => by rw [neqH]; rfl
                have HAT : Hid (∀ V, Below w.heap.size w V → Calls Try.prog 13 #[.pointer (some ⟨p, 0, none⟩), .int .i64 (j : Int)] V (ret (.tuple #[.agg #[.int .i64 0, .int .u64 0], .bool false]) V)) := Lib.hid fun V hV => by
                  have h := (HC.out V hV).2.2.2.1 (j : Int)
                  rw [hatE, isE] at h
                  exact h
                clear hatE isE
                go_wp2_with (first
                  | (go_at_call 13
                     refine (HAT.out wr HW2.out).mono ?_
                     rintro e v1 ⟨rfl, hb1⟩
                     have HW3 : Hid (Below w.heap.size w (v1.alloc (.cells #[.int .i64 0, .int .u64 0] 32))) := Lib.hid ((HW2.out.trans (hb1.mono HW2.out.size)).alloc (HW2.out.trans (hb1.mono HW2.out.size)).size _)
                     have HV3 : Hid (Below W.heap.size W (v1.alloc (.cells #[.int .i64 0, .int .u64 0] 32))) := Lib.hid ((HB.out.trans (hb1.mono HB.out.size)).alloc (HB.out.trans (hb1.mono HB.out.size)).size _)
                     have HX11 : Hid ((v1.alloc (.cells #[.int .i64 0, .int .u64 0] 32)).heap[v1.heap.size]? = some (.cells #[.int .i64 0, .int .u64 0] 32 (0, 0))) := Lib.hid (heap_alloc_new v1 _)
                     have xq1 : (v1.alloc (.cells #[.int .i64 0, .int .u64 0] 32)).cell? ⟨q, 0, none⟩ = some (.slice (some ⟨b0, off0, none⟩) s.has.length c0) := (HW3.out.cell (p := ⟨q, 0, none⟩) HQ.out).trans HXQ0.out
                     have xb1 : (v1.alloc (.cells #[.int .i64 0, .int .u64 0] 32)).cell? ⟨b0, off0 + j, none⟩ = some (.int .u64 0) := (HW3.out.cell (p := ⟨b0, off0 + j, none⟩) HB0.out).trans HXB.out
                     clear hb1 x3 xq)
                  | (refine wpList_load_row rfl 32 (.tmp 11) rfl v1.heap.size rfl 32 #[.int .i64 0, .int .u64 0] (0, 0) _ HX11.out Try.underlying32 rfl (by kernel_rfl) ?_))
                refine ⟨⟨j + 2, by omega, by rw [show (((j + 2 : Nat) : Int) - 1) = (j : Int) + 1 by omega], HV3.out⟩, ?_⟩
                show s.has.length + 2 - ((j : Int) + 1 + 1).toNat < s.has.length + 2 - ((j : Int) + 1).toNat
                omega
              · have isE : s.is_ (j : Int) = true := by unfold Ar.is_; rw [ej, di, decide_eq_true hz]; rfl
                have hatE : s.hat (j : Int) = #[.int .i64 (j : Int), .int .u64 (s.at_ j : Int)] := by unfold Ar.hat; rw [if_pos isE, ej]
                have HLV2 : Hid (s.live (j : Int) (s.at_ j) = true) := Lib.hid (Ar.live_iff.2 ⟨by omega, hz, by rw [ej]⟩)
                have dp : decide ((0 : Int) < (s.at_ j : Int)) = true := decide_eq_true (by omega)
                have dp2 : decide (0 < s.at_ j) = true := decide_eq_true (by omega)
                have HXB : Hid (w.cell? ⟨b0, off0 + j, none⟩ = some (.int .u64 (s.at_ j : Int))) := Lib.hid (hcl j hjn)
                clear hcl
                have HAT : Hid (∀ V, Below w.heap.size w V → Calls Try.prog 13 #[.pointer (some ⟨p, 0, none⟩), .int .i64 (j : Int)] V (ret (.tuple #[.agg #[.int .i64 (j : Int), .int .u64 (s.at_ j : Int)], .bool true]) V)) := Lib.hid fun V hV => by
                  have h := (HC.out V hV).2.2.2.1 (j : Int)
                  rw [hatE, isE] at h
                  exact h
                clear hatE isE
                go_wp2_with (first
                  | (go_at_call 13
                     refine (HAT.out wr HW2.out).mono ?_
                     rintro e v1 ⟨rfl, hb1⟩
                     have HW3 : Hid (Below w.heap.size w (v1.alloc (.cells #[.int .i64 (j : Int), .int .u64 (s.at_ j : Int)] 32))) := Lib.hid ((HW2.out.trans (hb1.mono HW2.out.size)).alloc (HW2.out.trans (hb1.mono HW2.out.size)).size _)
                     have HV3 : Hid (Below W.heap.size W (v1.alloc (.cells #[.int .i64 (j : Int), .int .u64 (s.at_ j : Int)] 32))) := Lib.hid ((HB.out.trans (hb1.mono HB.out.size)).alloc (HB.out.trans (hb1.mono HB.out.size)).size _)
                     have HX11 : Hid ((v1.alloc (.cells #[.int .i64 (j : Int), .int .u64 (s.at_ j : Int)] 32)).heap[v1.heap.size]? = some (.cells #[.int .i64 (j : Int), .int .u64 (s.at_ j : Int)] 32 (0, 0))) := Lib.hid (heap_alloc_new v1 _)
                     have xq1 : (v1.alloc (.cells #[.int .i64 (j : Int), .int .u64 (s.at_ j : Int)] 32)).cell? ⟨q, 0, none⟩ = some (.slice (some ⟨b0, off0, none⟩) s.has.length c0) := (HW3.out.cell (p := ⟨q, 0, none⟩) HQ.out).trans HXQ0.out
                     have xb1 : (v1.alloc (.cells #[.int .i64 (j : Int), .int .u64 (s.at_ j : Int)] 32)).cell? ⟨b0, off0 + j, none⟩ = some (.int .u64 (s.at_ j : Int)) := (HW3.out.cell (p := ⟨b0, off0 + j, none⟩) HB0.out).trans HXB.out
                     clear hb1 x3 xq)
                  | (refine wpList_load_row rfl 32 (.tmp 11) rfl v1.heap.size rfl 32 #[.int .i64 (j : Int), .int .u64 (s.at_ j : Int)] (0, 0) _ HX11.out Try.underlying32 rfl (by kernel_rfl) ?_)
                  | (go_at_call 24
                     refine (HRLV.out _ HW3.out (j : Int) (s.at_ j)).mono ?_
                     rintro e v2 ⟨rfl, hb2⟩
                     rw [HLV2.out]
                     have HV4 := Lib.hid (HV3.out.trans (hb2.mono HV3.out.size))))
                refine ⟨⟨j + 2, by omega, by rw [show (((j + 2 : Nat) : Int) - 1) = (j : Int) + 1 by omega], HV4.out⟩, ?_⟩
                show s.has.length + 2 - ((j : Int) + 1 + 1).toNat < s.has.length + 2 - ((j : Int) + 1).toNat
                omega
            · have isE : s.is_ (j : Int) = false := by unfold Ar.is_; rw [ej, Ar.at_out (by omega)]; simp
              have hatE : s.hat (j : Int) = #[.int .i64 0, .int .u64 0] := by unfold Ar.hat; rw [if_neg (by rw [isE]; decide)]
              have d2 : decide ((j : Int) < (s.has.length : Int)) = false := decide_eq_false (by omega)
              have hne : ∀ V : World, (binOp .neq 32 (.agg #[.int .i64 0, .int .u64 0]) (.agg #[.int .i64 0, .int .u64 0])).run Try.prog V = .ok (.bool false) V := fun V => by rw [neqH]; rfl
              have HAT : Hid (∀ V, Below w.heap.size w V → Calls Try.prog 13 #[.pointer (some ⟨p, 0, none⟩), .int .i64 (j : Int)] V (ret (.tuple #[.agg #[.int .i64 0, .int .u64 0], .bool false]) V)) := Lib.hid fun V hV => by
                have h := (HC.out V hV).2.2.2.1 (j : Int)
                rw [hatE, isE] at h
                exact h
              clear hatE isE
              go_wp2_with (first
                | (go_at_call 13
                   refine (HAT.out wr HW2.out).mono ?_
                   rintro e v1 ⟨rfl, hb1⟩
                   have HW3 : Hid (Below w.heap.size w (v1.alloc (.cells #[.int .i64 0, .int .u64 0] 32))) := Lib.hid ((HW2.out.trans (hb1.mono HW2.out.size)).alloc (HW2.out.trans (hb1.mono HW2.out.size)).size _)
                   have HV3 : Hid (Below W.heap.size W (v1.alloc (.cells #[.int .i64 0, .int .u64 0] 32))) := Lib.hid ((HB.out.trans (hb1.mono HB.out.size)).alloc (HB.out.trans (hb1.mono HB.out.size)).size _)
                   have HX11 : Hid ((v1.alloc (.cells #[.int .i64 0, .int .u64 0] 32)).heap[v1.heap.size]? = some (.cells #[.int .i64 0, .int .u64 0] 32 (0, 0))) := Lib.hid (heap_alloc_new v1 _)
                   have xq1 : (v1.alloc (.cells #[.int .i64 0, .int .u64 0] 32)).cell? ⟨q, 0, none⟩ = some (.slice A0 s.has.length c0) := (HW3.out.cell (p := ⟨q, 0, none⟩) HQ.out).trans HXQ0.out
                   clear hb1 x3 xq)
                | (refine wpList_load_row rfl 32 (.tmp 11) rfl v1.heap.size rfl 32 #[.int .i64 0, .int .u64 0] (0, 0) _ HX11.out Try.underlying32 rfl (by kernel_rfl) ?_))
              refine ⟨⟨j + 2, by omega, by rw [show (((j + 2 : Nat) : Int) - 1) = (j : Int) + 1 by omega], HV3.out⟩, ?_⟩
              show s.has.length + 2 - ((j : Int) + 1 + 1).toNat < s.has.length + 2 - ((j : Int) + 1).toNat
              omega
end Go.Proofs.Ythljpfmonienlaa
