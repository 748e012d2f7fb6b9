import Derived.Test.YtlchegibfopglaaK1
import Derived.Test.YtlchegibfopglaaK6
import Derived.Test.YtlchegibfopglaaK7
import Derived.Test.YtlchegibfopglaaK4
import Derived.Test.YtlchegibfopglaaK0
/- Layer 5, for later layers: the sums behind a pseudo header (Pseudo of both, the document's Right); what reads a header's words. -/
namespace Go.Proofs.Ytlchegibfopglaa
set_option maxRecDepth 100000
open Go.RowKit
theorem pseudo_any (v6 : Bool) (f g : Nat → Int) (hf : Byt f) (hg : Byt g) (pr : Int) (h1 : 0 ≤ pr) (h2 : pr ≤ 255) (n : Nat) (hn : n ≤ 9223372036854775807) (w : World) :
    Calls Try.prog 75 #[.bool v6, .agg (arr16 f), .agg (arr16 g), .int .u8 pr, .int .i64 (n : Int)] w fun e w' => e = .returned (.agg #[.int .u16 (psq v6 f g pr n), .bool false]) ∧ Below w.heap.size w w' := by
  have e := psum_mk v6 f g pr n
  cases v6
  · have h := pseudo4 f g hf hg pr (n : Int) h1 h2 (by omega) (by omega) w
    rw [e] at h
    dsimp only at h
    exact h
  · have h := pseudo6 f g hf hg pr (n : Int) h1 h2 (by omega) (by omega) w
    rw [e] at h
    dsimp only at h
    exact h
theorem rpseudo_any (v6 : Bool) (f g : Nat → Int) (hf : Byt f) (hg : Byt g) (pr : Int) (h1 : 0 ≤ pr) (h2 : pr ≤ 255) (n : Nat) (hn : n ≤ 9223372036854775807) (w : World) :
    Calls Try.prog 52 #[.bool v6, .agg (arr16 f), .agg (arr16 g), .int .u8 pr, .int .i64 (n : Int)] w fun e w' => e = .returned (.agg #[.int .u16 (psq v6 f g pr n), .bool false]) ∧ Below w.heap.size w w' := by
  have e := psum_mk v6 f g pr n
  cases v6
  · have h := rpseudo4 f g hf hg pr (n : Int) h1 h2 (by omega) (by omega) w
    rw [e] at h
    dsimp only at h
    exact h
  · have h := rpseudo6 f g hf hg pr (n : Int) h1 h2 (by omega) (by omega) w
    rw [e] at h
    dsimp only at h
    exact h
/-- Two addresses that were boxed. -/
structure Box2 (w W : World) (s d : Nat → Int) : Prop where
  b0 : W.heap[w.heap.size]? = some (.cells (arr16 s) 23 (0, 0))
  b1 : W.heap[w.heap.size + 1]? = some (.cells (arr16 d) 23 (0, 0))
  below : Below w.heap.size w W
theorem Box2.start (w : World) (s d : Nat → Int) : Box2 w ((w.alloc (.cells (arr16 s) 23)).alloc (.cells (arr16 d) 23)) s d := by
  have e1 : (w.alloc (.cells (arr16 s) 23)).heap.size = w.heap.size + 1 := by simp
  refine ⟨blk_old (heap_alloc_new w _) _, ?_, below_alloc2 w _ _⟩
  rw [← e1]
  exact heap_alloc_new _ _
theorem Box2.step {w W W' : World} {s d : Nat → Int} (h : Box2 w W s d) (hb : Below W.heap.size W W') : Box2 w W' s d :=
  ⟨(hb.block _ (lt_heap h.b0)).trans h.b0, (hb.block _ (lt_heap h.b1)).trans h.b1, h.below.trans (hb.mono h.below.size)⟩
set_option maxHeartbeats 1000000 in
theorem right_any (v6 : Bool) (s d : Nat → Int) (hs : Byt s) (hd : Byt d) (pr : Int) (h1 : 0 ≤ pr) (h2 : pr ≤ 255) (A : Option Addr) (n c : Nat) (f : Nat → Int) (hf : Byt f) (hn : n ≤ 4611686018427387900) (w : World) (hr : Rd w w.heap.size A n f) :
    Calls Try.prog 32 #[.bool v6, .agg (arr16 s), .agg (arr16 d), .int .u8 pr, .slice A n c] w fun e w' => e = .returned (.int .u16 (rgt (psq v6 s d pr n) f n)) ∧ Below w.heap.size w w' := by
  have hSb := psq_bd v6 hs hd h1 h2 n
  have HP := Lib.hid fun W => rpseudo_any v6 s d hs hd pr h1 h2 n (by omega) W
  unfold rgt
  generalize psq v6 s d pr n = S at *
  have HA := Lib.hid fun W hr => radd_any S false A n c f hf hn W hSb.1 hSb.2 hr
  have hb := fld_bd (p := (S, false)) hf hSb n
  generalize fld f (S, false) n = q at *
  have HE := Lib.hid fun W => rend_any q.1 q.2 W hb.1 hb.2
  have HR := Lib.hid hr
  have HX := Lib.hid (Box2.start w s d)
  clear hs hd hf hr hSb hb
  go_enter Try.func32, Try.ntmps32
  go_upto_region 1 with fail
  change Code.wp _ _ _ _ ((w.alloc (.cells (arr16 s) 23)).alloc (.cells (arr16 d) 23))
  generalize (w.alloc (.cells (arr16 s) 23)).alloc (.cells (arr16 d) 23) = w2 at *
  go_wp2_with (first
    | (refine wpList_load_roww rfl 23 (.tmp 6) rfl w.heap.size rfl 23 (arr16 s) (0, 0) _ HX.out.b0 Try.underlying23 rfl (by kernel_rfl) ?_)
    | (refine wpList_load_roww rfl 23 (.tmp 7) rfl (w.heap.size + 1) rfl 23 (arr16 d) (0, 0) _ HX.out.b1 Try.underlying23 rfl (by kernel_rfl) ?_)
    | (go_at_call 52; refine (HP.out _).mono ?_; rintro e w3 ⟨rfl, hb3⟩; have HB3 : Hid (Below w.heap.size w w3) := HX.out.below.trans (hb3.mono HX.out.below.size); clear hb3)
    | (go_at_call 51; refine (HA.out _ ((HR.out.keep HB3.out).more HB3.out.size)).mono ?_; rintro e w4 ⟨rfl, hb4⟩; have HB4 : Hid (Below w.heap.size w w4) := HB3.out.trans (hb4.mono HB3.out.size); clear hb4)
    | (go_at_call 50; refine (HE.out _).mono ?_; rintro e w5 ⟨rfl, hb5⟩; have HB5 : Hid (Below w.heap.size w w5) := HB4.out.trans (hb5.mono HB4.out.size); clear hb5))
  go_ret
  exact ⟨rfl, HB5.out⟩
/-- What reads a header's words, as it lies in memory. -/
def wdV (p : Nat) : Value := .func (.func 76) #[] #[.pointer (some ⟨p, 0, none⟩)]
set_option maxHeartbeats 1000000 in
theorem word_any (p b off n c at_ : Nat) (f : Nat → Int) (hf : Byt f) (hat : at_ + 1 < n) (hn : n ≤ 4611686018427387904) (w : World) (hp : w.cell? ⟨p, 0, none⟩ = some (.slice (some ⟨b, off, none⟩) n c)) (hc : ∀ k, k < n → w.cell? ⟨b, off + k, none⟩ = some (.int .u8 (f k))) :
    Calls Try.prog 76 #[.int .i64 (at_ : Int), .pointer (some ⟨p, 0, none⟩)] w fun e w' => e = .returned (.int .u16 (w2 f at_)) ∧ Below w.heap.size w w' := by
  have x0 := hc at_ (by omega)
  have x1 := hc (at_ + 1) (by omega)
  have p0 := hf at_
  have p1 := hf (at_ + 1)
  unfold w2
  have z0 : IntKind.u16.wrap (f at_) = f at_ := by rw [IntKind.wrap_u16]; omega
  have z1 : IntKind.u16.wrap (f (at_ + 1)) = f (at_ + 1) := by rw [IntKind.wrap_u16]; omega
  have z2 : IntKind.u16.wrap (f at_ * 256) = f at_ * 256 := by rw [IntKind.wrap_u16]; omega
  have z3 : bits .or .u16 (f at_ * 256) (f (at_ + 1)) = f at_ * 256 + f (at_ + 1) := or_u16 _ _ 256 8 rfl (by omega) (by omega) (by omega) (by omega)
  have i0 : (0 : Int) ≤ (at_ : Int) := by omega
  have i1 : (at_ : Int) < (n : Int) := by omega
  have i2 : (0 : Int) ≤ (at_ : Int) + 1 := by omega
  have i3 : (at_ : Int) + 1 < (n : Int) := by omega
  have i4 : ((at_ : Int)).toNat = at_ := by omega
  have i5 : ((at_ : Int) + 1).toNat = at_ + 1 := by omega
  have i6 : IntKind.i64.wrap ((at_ : Int) + 1) = (at_ : Int) + 1 := by rw [IntKind.wrap_i64]; omega
  clear hc hf
  go_enter Try.func76, Try.ntmps76
  go_wp2
  go_quiet (fail)
  go_wp2
  go_ret
  exact ⟨rfl, below_drewN (Below.refl _ _) _⟩
/-- What reader tells: a closure over the slice, that lies in a new block. -/
theorem reader_any (v : Value) (A : Option Addr) (n c : Nat) (hv : v = .slice A n c) (w : World) :
    Calls Try.prog 59 #[v] w fun e w' => e = .returned (wdV w.heap.size) ∧ w' = w.alloc (.cells #[.slice A n c] 22) := by
  subst hv
  have hmf : ∀ (fn : Fn) (first cap : Array Value) (w : World), (Instr.makeFunc fn first cap).run Try.prog w = .ok (.func fn first cap) w := fun _ _ _ _ => rfl
  go_enter Try.func59, Try.ntmps59
  go_wp2
  go_ret
  exact ⟨rfl, rfl⟩
end Go.Proofs.Ytlchegibfopglaa
/- Contracts of Of, the program's and the document's. -/
namespace Go.Proofs.Ytlchegibfopglaa
set_option maxRecDepth 100000
open Go.RowKit
set_option maxHeartbeats 400000 in
theorem of_any (A : Option Addr) (n c : Nat) (f : Nat → Int) (hf : Byt f) (hn : n ≤ 4611686018427387900) (hcap : n ≤ c) (w : World) (hr : Rd w w.heap.size A n f) :
    Calls Try.prog 56 #[.slice A n c] w fun e w' => e = .returned (.int .u16 (ofv f n)) ∧ Below w.heap.size w w' := by
  obtain ⟨hq, hq'⟩ := fld_bd (p := (0, false)) hf ⟨by omega, by omega⟩ n
  have HF := Lib.hid hf
  clear hf
  have HR := Lib.hid hr
  clear hr
  unfold ofv
  have HA := Lib.hid (add_any 0 false A n c f HF.out hn hcap w (by omega) (by omega) HR.out)
  generalize fld f (0, false) n = q at *
  go_enter Try.func56, Try.ntmps56
  go_wp2_with (first
    | (go_at_call 74; refine HA.out.mono ?_; rintro e w1 ⟨rfl, hb1⟩)
    | (go_at_call 73; refine (end_any q.1 q.2 _ hq hq').mono ?_; rintro e w2 ⟨rfl, hb2⟩))
  go_ret
  exact ⟨rfl, hb1.trans (hb2.mono hb1.size)⟩
set_option maxHeartbeats 400000 in
theorem rof_any (A : Option Addr) (n c : Nat) (f : Nat → Int) (hf : Byt f) (hn : n ≤ 4611686018427387900) (w : World) (hr : Rd w w.heap.size A n f) :
    Calls Try.prog 46 #[.slice A n c] w fun e w' => e = .returned (.int .u16 (ofv f n)) ∧ Below w.heap.size w w' := by
  obtain ⟨hq, hq'⟩ := fld_bd (p := (0, false)) hf ⟨by omega, by omega⟩ n
  have HF := Lib.hid hf
  clear hf
  have HR := Lib.hid hr
  clear hr
  unfold ofv
  have HA := Lib.hid (radd_any 0 false A n c f HF.out hn w (by omega) (by omega) HR.out)
  generalize fld f (0, false) n = q at *
  go_enter Try.func46, Try.ntmps46
  go_wp2_with (first
    | (go_at_call 51; refine HA.out.mono ?_; rintro e w1 ⟨rfl, hb1⟩)
    | (go_at_call 50; refine (rend_any q.1 q.2 _ hq hq').mono ?_; rintro e w2 ⟨rfl, hb2⟩))
  go_ret
  exact ⟨rfl, hb1.trans (hb2.mono hb1.size)⟩
end Go.Proofs.Ytlchegibfopglaa
/- Layer 4's words: a chain of extension headers. -/
namespace Go.Proofs.Ytlchegibfopglaa
open Go.RowKit
--CUT
/-- Is a next header an extension header? -/
def ext6 (k : Int) : Bool := k == 0 || k == 43 || k == 44 || k == 60
/-- How many bytes one says that it has. -/
def len6 (k : Int) (f : Nat → Int) : Nat := if k = 44 then 8 else 8 + 8 * (f 1).toNat
/-- How many bytes one has that begins m bytes, and what is wrong with it. -/
def one6 (k : Int) (first : Bool) (f : Nat → Int) (m : Nat) : Nat × Int :=
  if k = 0 ∧ first = false then (0, 5)
  else if m < 8 then (0, 4)
  else if m < len6 k f then (0, 4)
  else if k = 43 ∧ f 3 ≠ 0 then (0, 12)
  else if k = 44 ∧ ((f 2 * 256 + f 3) / 8 ≠ 0 ∨ (f 2 * 256 + f 3) % 2 = 1) then (0, 11)
  else (len6 k f, 0)
/-- A chain from a place on, of at most so many headers more. -/
def chn (f : Nat → Int) (N : Nat) : Nat → Int → Nat → Int × Nat × Int
  | 0, next, a => if ext6 next = true then (0, 0, 3) else (next, a, 0)
  | k + 1, next, a => if ext6 next = true then
      (if (one6 next (decide (k = 7)) (fun j => f (a + j)) (N - a)).2 = 0 then chn f N k (f a) (a + (one6 next (decide (k = 7)) (fun j => f (a + j)) (N - a)).1)
       else (0, 0, (one6 next (decide (k = 7)) (fun j => f (a + j)) (N - a)).2))
    else (next, a, 0)
theorem one6_ok {k : Int} {first : Bool} {f : Nat → Int} {m : Nat} (h : (one6 k first f m).2 = 0) : 8 ≤ (one6 k first f m).1 ∧ (one6 k first f m).1 ≤ m ∧ (one6 k first f m).1 = len6 k f := by
  unfold one6 at *
  split at h
  · cases h
  rename_i q1
  rw [if_neg q1]
  split at h
  · cases h
  rename_i q2
  rw [if_neg q2]
  split at h
  · cases h
  rename_i q3
  rw [if_neg q3]
  split at h
  · cases h
  rename_i q4
  rw [if_neg q4]
  split at h
  · cases h
  rename_i q5
  rw [if_neg q5]
  refine ⟨?_, by simpa using q3, rfl⟩
  show 8 ≤ len6 k f
  unfold len6
  split <;> omega
/-- One header hangs on its own bytes, if it is whole. -/
theorem one6_same {k : Int} {first : Bool} {f g : Nat → Int} {m m' : Nat} (h : (one6 k first f m).2 = 0) (hm : (one6 k first f m).1 ≤ m') (hg : ∀ j, j < (one6 k first f m).1 → g j = f j) : one6 k first g m' = one6 k first f m := by
  obtain ⟨a, b, c⟩ := one6_ok h
  have e1 := hg 1 (by omega)
  have e2 := hg 2 (by omega)
  have e3 := hg 3 (by omega)
  rw [c] at hm
  have q : ¬ (k = 0 ∧ first = false) ∧ ¬ (k = 43 ∧ f 3 ≠ 0) ∧ ¬ (k = 44 ∧ ((f 2 * 256 + f 3) / 8 ≠ 0 ∨ (f 2 * 256 + f 3) % 2 = 1)) ∧ ¬ m < 8 ∧ ¬ m < len6 k f := by
    unfold one6 at h
    split at h
    · cases h
    split at h
    · cases h
    split at h
    · cases h
    split at h
    · cases h
    split at h
    · cases h
    rename_i q1 q2 q3 q4 q5
    exact ⟨q1, q4, q5, q2, q3⟩
  obtain ⟨q1, q4, q5, q2, q3⟩ := q
  have el : len6 k g = len6 k f := by unfold len6; rw [e1]
  have q8 : 8 ≤ len6 k f := by rw [← c]; exact a
  unfold one6
  rw [el, e2, e3, if_neg q1, if_neg (show ¬ m' < 8 by omega), if_neg (show ¬ m' < len6 k f by omega), if_neg q4, if_neg q5, if_neg q1, if_neg q2, if_neg q3]
/-- A chain hangs on its own bytes. -/
theorem chn_same {f g : Nat → Int} {N N' : Nat} : ∀ (k : Nat) (next : Int) (a : Nat) (p : Int) (n : Nat), chn f N k next a = (p, n, 0) → a ≤ N → (n ≤ N' → (∀ j, j < n → g j = f j) → chn g N' k next a = (p, n, 0)) ∧ a ≤ n ∧ n ≤ N
  | 0, next, a, p, n, h, ha => by
    unfold chn at h
    split at h
    · injection h with _ h
      injection h with _ h
      cases h
    · rename_i q
      injection h with h1 h2
      injection h2 with h2 _
      subst h1 h2
      refine ⟨fun _ _ => ?_, Nat.le_refl _, ha⟩
      unfold chn
      rw [if_neg q]
  | k + 1, next, a, p, n, h, ha => by
    unfold chn at h
    split at h
    · rename_i q
      split at h
      · rename_i h0
        obtain ⟨b1, b2, _⟩ := one6_ok h0
        obtain ⟨ih, l1, l2⟩ := chn_same k _ _ p n h (by omega)
        refine ⟨fun hn hg => ?_, by omega, l2⟩
        have e := one6_same (g := fun j => g (a + j)) (m' := N' - a) h0 (by omega) (fun j hj => hg _ (by omega))
        unfold chn
        rw [if_pos q, e, if_pos h0, hg a (by omega)]
        exact ih hn hg
      · rename_i h0
        injection h with _ h
        injection h with _ h
        exact absurd h h0
    · rename_i q
      injection h with h1 h2
      injection h2 with h2 _
      subst h1 h2
      refine ⟨fun _ _ => ?_, Nat.le_refl _, ha⟩
      unfold chn
      rw [if_neg q]
theorem chn_congr {f g : Nat → Int} {N : Nat} (h : ∀ j, j < N → g j = f j) : ∀ (k : Nat) (next : Int) (a : Nat), a ≤ N → chn g N k next a = chn f N k next a
  | 0, _, _, _ => rfl
  | k + 1, next, a, ha => by
    have e : one6 next (decide (k = 7)) (fun j => g (a + j)) (N - a) = one6 next (decide (k = 7)) (fun j => f (a + j)) (N - a) := by
      unfold one6
      by_cases h8 : N - a < 8
      · rw [if_pos h8, if_pos h8]
      · have el : len6 next (fun j => g (a + j)) = len6 next (fun j => f (a + j)) := by
          unfold len6
          show (if next = 44 then 8 else 8 + 8 * (g (a + 1)).toNat) = (if next = 44 then 8 else 8 + 8 * (f (a + 1)).toNat)
          rw [h (a + 1) (by omega)]
        have e2 : g (a + 2) = f (a + 2) := h (a + 2) (by omega)
        have e3 : g (a + 3) = f (a + 3) := h (a + 3) (by omega)
        simp only [el, e2, e3]
    unfold chn
    rw [e]
    split
    · split
      · rename_i h0
        obtain ⟨b1, b2, _⟩ := one6_ok h0
        rw [h a (by omega)]
        exact chn_congr h k _ _ (by omega)
      · rfl
    · rfl
theorem chn_bad {f : Nat → Int} {N : Nat} : ∀ (k : Nat) (next : Int) (a : Nat), (chn f N k next a).2.2 ≠ 0 → (chn f N k next a).1 = 0 ∧ (chn f N k next a).2.1 = 0
  | 0, next, a, h => by
    unfold chn at *
    split at h
    · rename_i q; rw [if_pos q]; exact ⟨rfl, rfl⟩
    · exact absurd rfl h
  | k + 1, next, a, h => by
    unfold chn at *
    split at h
    · rename_i q
      rw [if_pos q]
      split at h
      · rename_i h0
        rw [if_pos h0]
        exact chn_bad k _ _ h
      · rename_i h0
        rw [if_neg h0]
        exact ⟨rfl, rfl⟩
    · exact absurd rfl h
end Go.Proofs.Ytlchegibfopglaa
/- Layer 6's words: errors' kinds and numbers, what a received error tells, what is written, and that writing then reading gives the same. Nothing of the program. -/

namespace Go.Proofs.Ytlchegibfopglaa

open Go.RowKit

--CUT
/-- Is a type an error's? -/
def errK (v6 : Bool) (k : Int) : Bool := if v6 = true then decide (1 ≤ k ∧ k ≤ 4) else decide (k = 3 ∨ k = 4 ∨ k = 5 ∨ k = 11 ∨ k = 12)
/-- The header of a packet within: what is wrong with it, where its segment begins, its protocol. -/
def win4 (f : Nat → Int) (n : Nat) : Int × Nat × Int :=
  if n < 20 then (4, 0, 0) else if f 0 / 16 ≠ 4 ∨ 4 * (f 0 % 16).toNat < 20 then (5, 0, 0) else if n < 4 * (f 0 % 16).toNat then (4, 0, 0) else if w2 f 6 % 8192 ≠ 0 then (11, 0, 0) else (0, 4 * (f 0 % 16).toNat, f 9)
/-- The chain of a packet within. -/
def wch (f : Nat → Int) (n : Nat) : Int × Nat × Int := chn (fun k => f (40 + k)) (n - 40) 8 (f 6) 0
def win6 (f : Nat → Int) (n : Nat) : Int × Nat × Int :=
  if n < 40 then (4, 0, 0) else if f 0 / 16 ≠ 6 then (5, 0, 0) else if (wch f n).2.2 ≠ 0 then ((wch f n).2.2, 0, 0) else (0, 40 + (wch f n).2.1, (wch f n).1)
def win (v6 : Bool) (f : Nat → Int) (n : Nat) : Int × Nat × Int := if v6 = true then win6 f n else win4 f n
/-- What Within tells. -/
def winE (v6 : Bool) (f : Nat → Int) (n : Nat) : Int :=
  if (win v6 f n).1 ≠ 0 then (win v6 f n).1 else if (win v6 f n).2.2 ≠ 6 ∧ (win v6 f n).2.2 ≠ 17 then 10 else if n - (win v6 f n).2.1 < 4 then 4 else 0
/-- The flow's ends, its ports. -/
def winA (v6 : Bool) (f : Nat → Int) (a4 a6 k : Nat) : Int := if v6 = true then f (a6 + k) else if k < 4 then f (a4 + k) else 0
def winS (v6 : Bool) (f : Nat → Int) : Nat → Int := winA v6 f 16 24
def winD (v6 : Bool) (f : Nat → Int) : Nat → Int := winA v6 f 12 8
theorem winA_byt {v6 : Bool} {f : Nat → Int} (hf : Byt f) (a4 a6 : Nat) : Byt (winA v6 f a4 a6) := fun k => by
  unfold winA
  have a := hf (a6 + k)
  have b := hf (a4 + k)
  repeat' split
  all_goals omega
/-- The sum of a message. -/
def mS (v6 : Bool) (s d : Nat → Int) (n : Nat) : Int := if v6 = true then psq true s d 58 n else 0
theorem mS_bd (v6 : Bool) {s d : Nat → Int} (hs : Byt s) (hd : Byt d) (n : Nat) : 0 ≤ mS v6 s d n ∧ mS v6 s d n ≤ 65535 := by
  unfold mS
  split
  · exact psq_bd true hs hd (by omega) (by omega) n
  · omega
/-- What Read tells. -/
def icE (v6 : Bool) (S : Int) (f : Nat → Int) (n : Nat) : Int :=
  if n < 8 then 4 else if rgt S f n ≠ 0 then 6 else if errK v6 (f 0) = false then 10 else winE v6 (fun k => f (8 + k)) (n - 8)
/-- What Write tells: an error, the bytes. -/
def icX (v6 : Bool) (kind : Int) (n : Nat) : Int := if errK v6 kind = false then 10 else if 1652 < n then 3 else 0
def icH (kind code su : Int) (r : Nat → Int) (k : Nat) : Int :=
  if k = 0 then kind else if k = 1 then code else if k = 2 then su / 256 else if k = 3 then su % 256 else if k < 8 then r (k - 4) else 0
def icB (kind code su : Int) (r f : Nat → Int) : Nat → Int := cat 8 (icH kind code su r) f
theorem icH_byt {kind code su : Int} {r : Nat → Int} (h1 : 0 ≤ kind ∧ kind ≤ 255) (h2 : 0 ≤ code ∧ code ≤ 255) (h3 : 0 ≤ su ∧ su ≤ 65535) (hr : Byt r) : Byt (icH kind code su r) := fun k => by
  have a := hr (k - 4)
  unfold icH
  repeat' split
  all_goals omega
theorem icB_sum (kind code su : Int) (r f : Nat → Int) : icB kind code su r f = lay2 (icB kind code 0 r f) 2 su := by
  funext k
  unfold lay2 upd icB cat icH
  by_cases h3 : k = 3
  · subst h3
    simp
  · rw [if_neg h3]
    by_cases h2 : k = 2
    · subst h2
      simp
    · rw [if_neg h2]
      simp [h2, h3]
/-- A written message, read. -/
theorem ic_back {v6 : Bool} {kind code S : Int} {r f : Nat → Int} {n : Nat} (h1 : 0 ≤ kind ∧ kind ≤ 255) (h2 : 0 ≤ code ∧ code ≤ 255) (hr : Byt r) (hf : ∀ k, 0 ≤ f k ∧ f k ≤ 255) (hS : 0 ≤ S ∧ S ≤ 65535) (hx : icX v6 kind n = 0) (hcat : Byt (icB kind code 0 r f)) (g : Nat → Int)
    (hg : g = icB kind code (rgt S (icB kind code 0 r f) (8 + n)) r f) : rgt S g (8 + n) = 0 ∧ g 0 = kind ∧ g 1 = code ∧ (∀ k, g (8 + k) = f k) ∧ errK v6 kind = true ∧ n ≤ 1652 := by
  have hC := rgt_bd hcat hS (8 + n)
  have z2 : icB kind code 0 r f 2 = 0 := by simp [icB, cat, icH]
  have z3 : icB kind code 0 r f 3 = 0 := by simp [icB, cat, icH]
  have hok : errK v6 kind = true ∧ n ≤ 1652 := by
    unfold icX at hx
    split at hx
    · omega
    split at hx
    · omega
    rename_i q1 q2
    exact ⟨by simpa using q1, by omega⟩
  refine ⟨?_, by rw [hg]; simp [icB, cat, icH], by rw [hg]; simp [icB, cat, icH], fun k => ?_, hok⟩
  · rw [hg, icB_sum]
    exact rgt_laid hcat hS 2 (8 + n) (by omega) (by omega) z2 z3
  · rw [hg]
    unfold icB cat
    rw [if_neg (by omega)]
    congr 1
    omega
/-- Within hangs on the bytes that there are. -/
theorem wch_plain {f : Nat → Int} {n : Nat} (h : ext6 (f 6) = false) : wch f n = (f 6, 0, 0) := by
  unfold wch chn
  rw [if_neg (by rw [h]; decide)]
theorem win_turn6 {f : Nat → Int} (h0 : f 0 = 96) (hp : f 6 = 6 ∨ f 6 = 17) : winE true f 48 = 0 ∧ win true f 48 = (0, 40, f 6) ∧ winE false f 48 = 5 := by
  have e : ext6 (f 6) = false := by rcases hp with h | h <;> rw [h] <;> rfl
  have w : win true f 48 = (0, 40, f 6) := by
    unfold win win6
    rw [if_pos rfl, if_neg (by omega), if_neg (by rw [h0]; decide), wch_plain e, if_neg (fun q => q rfl)]
    rfl
  have w4 : win false f 48 = (5, 0, 0) := by
    unfold win win4
    rw [if_neg (by decide), if_neg (by omega), if_pos (.inl (by rw [h0]; decide))]
  refine ⟨?_, w, ?_⟩
  · unfold winE
    rw [w, if_neg (fun q => q rfl), if_neg (fun q => by rcases hp with h | h; exact q.1 h; exact q.2 h), if_neg (by show ¬ 48 - 40 < 4; omega)]
  · unfold winE
    rw [w4, if_pos (by decide)]
theorem win_turn4 {f : Nat → Int} (h0 : f 0 = 69) (h6 : w2 f 6 % 8192 = 0) (hp : f 9 = 6 ∨ f 9 = 17) : winE false f 28 = 0 ∧ win false f 28 = (0, 20, f 9) ∧ winE true f 28 = 4 := by
  have w : win false f 28 = (0, 20, f 9) := by
    unfold win win4
    rw [if_neg (by decide), if_neg (by omega), if_neg (by rw [h0]; decide), if_neg (by rw [h0]; decide), if_neg (fun q => q h6), h0]
    rfl
  have w6 : win true f 28 = (4, 0, 0) := by
    unfold win win6
    rw [if_pos rfl, if_pos (by omega)]
  refine ⟨?_, w, ?_⟩
  · unfold winE
    rw [w, if_neg (fun q => q rfl), if_neg (fun q => by rcases hp with h | h; exact q.1 h; exact q.2 h), if_neg (by show ¬ 28 - 20 < 4; omega)]
  · unfold winE
    rw [w6, if_pos (by decide)]

end Go.Proofs.Ytlchegibfopglaa
/- Layer 6: flows and reports in memory; which types are errors; addresses; the sums of a message. -/
namespace Go.Proofs.Ytlchegibfopglaa
set_option maxRecDepth 100000
open Go.RowKit
/-- A flow, a report, in memory. -/
def tupc (v6 : Bool) (pr : Int) (s d : Nat → Int) (sp dp : Int) : Array Value := #[.bool v6, .int .u8 pr, .int .u8 (s 0), .int .u8 (s 1), .int .u8 (s 2), .int .u8 (s 3), .int .u8 (s 4), .int .u8 (s 5), .int .u8 (s 6), .int .u8 (s 7), .int .u8 (s 8), .int .u8 (s 9), .int .u8 (s 10), .int .u8 (s 11), .int .u8 (s 12), .int .u8 (s 13), .int .u8 (s 14), .int .u8 (s 15), .int .u8 (d 0), .int .u8 (d 1), .int .u8 (d 2), .int .u8 (d 3), .int .u8 (d 4), .int .u8 (d 5), .int .u8 (d 6), .int .u8 (d 7), .int .u8 (d 8), .int .u8 (d 9), .int .u8 (d 10), .int .u8 (d 11), .int .u8 (d 12), .int .u8 (d 13), .int .u8 (d 14), .int .u8 (d 15), .int .u16 sp, .int .u16 dp]
def tupz : Array Value := tupc false 0 (fun _ => 0) (fun _ => 0) 0 0
def repc (ty co : Int) (v6 : Bool) (pr : Int) (s d : Nat → Int) (sp dp : Int) : Array Value := #[.int .u8 ty, .int .u8 co, .bool v6, .int .u8 pr, .int .u8 (s 0), .int .u8 (s 1), .int .u8 (s 2), .int .u8 (s 3), .int .u8 (s 4), .int .u8 (s 5), .int .u8 (s 6), .int .u8 (s 7), .int .u8 (s 8), .int .u8 (s 9), .int .u8 (s 10), .int .u8 (s 11), .int .u8 (s 12), .int .u8 (s 13), .int .u8 (s 14), .int .u8 (s 15), .int .u8 (d 0), .int .u8 (d 1), .int .u8 (d 2), .int .u8 (d 3), .int .u8 (d 4), .int .u8 (d 5), .int .u8 (d 6), .int .u8 (d 7), .int .u8 (d 8), .int .u8 (d 9), .int .u8 (d 10), .int .u8 (d 11), .int .u8 (d 12), .int .u8 (d 13), .int .u8 (d 14), .int .u8 (d 15), .int .u16 sp, .int .u16 dp]
def repz : Array Value := repc 0 0 false 0 (fun _ => 0) (fun _ => 0) 0 0
theorem tup_one (v6 : Bool) (pr : Int) (s d : Nat → Int) (sp dp : Int) : (tupc v6 pr s d sp dp).all (·.oneCell') = true := by simp [tupc, Value.oneCell']
theorem tupz_one : tupz.all (·.oneCell') = true := tup_one ..
theorem rep_one (ty co : Int) (v6 : Bool) (pr : Int) (s d : Nat → Int) (sp dp : Int) : (repc ty co v6 pr s d sp dp).all (·.oneCell') = true := by simp [repc, Value.oneCell']
theorem repz_one : repz.all (·.oneCell') = true := rep_one ..
theorem tup_same {v6 : Bool} {pr : Int} {s d s' d' : Nat → Int} {sp dp : Int} (h : ∀ k, k < 16 → s k = s' k) (h' : ∀ k, k < 16 → d k = d' k) : tupc v6 pr s d sp dp = tupc v6 pr s' d' sp dp := by
  unfold tupc
  rw [h 0 (by omega), h 1 (by omega), h 2 (by omega), h 3 (by omega), h 4 (by omega), h 5 (by omega), h 6 (by omega), h 7 (by omega), h 8 (by omega), h 9 (by omega), h 10 (by omega), h 11 (by omega), h 12 (by omega), h 13 (by omega), h 14 (by omega), h 15 (by omega), h' 0 (by omega), h' 1 (by omega), h' 2 (by omega), h' 3 (by omega), h' 4 (by omega), h' 5 (by omega), h' 6 (by omega), h' 7 (by omega), h' 8 (by omega), h' 9 (by omega), h' 10 (by omega), h' 11 (by omega), h' 12 (by omega), h' 13 (by omega), h' 14 (by omega), h' 15 (by omega)]
theorem err6_any (k : Int) (h : 0 ≤ k ∧ k ≤ 255) (w : World) : Calls Try.prog 84 #[.int .u8 k] w fun e w' => e = .returned (.bool (errK true k)) ∧ w = w' := by
  have H : k = 1 ∨ k = 2 ∨ k = 3 ∨ k = 4 ∨ (k < 1 ∨ 4 < k) := by omega
  rcases H with rfl | rfl | rfl | rfl | h5
  iterate 4
    · clear h
      go_enter Try.func84, Try.ntmps84
      go_wp2
      go_ret
      exact ⟨rfl, rfl⟩
  · have e1 : (k == 1) = false := by simp; omega
    have e2 : (k == 2) = false := by simp; omega
    have e3 : (k == 3) = false := by simp; omega
    have e4 : (k == 4) = false := by simp; omega
    have er : errK true k = false := by unfold errK; simp; omega
    rw [er]
    clear h5 h er
    go_enter Try.func84, Try.ntmps84
    go_wp2
    go_ret
    exact ⟨rfl, rfl⟩
theorem err4_any (k : Int) (h : 0 ≤ k ∧ k ≤ 255) (w : World) : Calls Try.prog 85 #[.int .u8 k] w fun e w' => e = .returned (.bool (errK false k)) ∧ w = w' := by
  have H : k = 3 ∨ k = 4 ∨ k = 5 ∨ k = 11 ∨ k = 12 ∨ (k ≠ 3 ∧ k ≠ 4 ∧ k ≠ 5 ∧ k ≠ 11 ∧ k ≠ 12) := by omega
  rcases H with rfl | rfl | rfl | rfl | rfl | ⟨h1, h2, h3, h4, h5⟩
  iterate 5
    · clear h
      go_enter Try.func85, Try.ntmps85
      go_wp2
      go_ret
      exact ⟨rfl, rfl⟩
  · have e1 : (k == 3) = false := by simp; omega
    have e2 : (k == 4) = false := by simp; omega
    have e3 : (k == 5) = false := by simp; omega
    have e4 : (k == 11) = false := by simp; omega
    have e5 : (k == 12) = false := by simp; omega
    have er : errK false k = false := by unfold errK; simp; omega
    rw [er]
    clear h1 h2 h3 h4 h5 h er
    go_enter Try.func85, Try.ntmps85
    go_wp2
    go_ret
    exact ⟨rfl, rfl⟩
theorem errs6_any (w : World) : Calls Try.prog 77 #[.bool true] w fun e w' => e = .returned (.func (.func 84) #[] #[]) ∧ w = w' := by
  go_enter Try.func77, Try.ntmps77
  go_wp2
  go_ret
  exact ⟨rfl, rfl⟩
theorem errs4_any (w : World) : Calls Try.prog 77 #[.bool false] w fun e w' => e = .returned (.func (.func 85) #[] #[]) ∧ w = w' := by
  go_enter Try.func77, Try.ntmps77
  go_wp2
  go_ret
  exact ⟨rfl, rfl⟩
theorem isErr_any (v6 : Bool) (k : Int) (h : 0 ≤ k ∧ k ≤ 255) (w : World) : Calls Try.prog 62 #[.bool v6, .int .u8 k] w fun e w' => e = .returned (.bool (errK v6 k)) ∧ w = w' := by
  cases v6
  · have H1 := Lib.hid (errs4_any w)
    have H2 := Lib.hid (err4_any k h w)
    clear h
    go_enter Try.func62, Try.ntmps62
    go_wp2_with (first
      | (go_at_call 77; refine H1.out.mono ?_; rintro e w1 ⟨rfl, rfl⟩)
      | (go_at_call 85; refine H2.out.mono ?_; rintro e w2 ⟨rfl, rfl⟩))
    go_ret
    exact ⟨rfl, rfl⟩
  · have H1 := Lib.hid (errs6_any w)
    have H2 := Lib.hid (err6_any k h w)
    clear h
    go_enter Try.func62, Try.ntmps62
    go_wp2_with (first
      | (go_at_call 77; refine H1.out.mono ?_; rintro e w1 ⟨rfl, rfl⟩)
      | (go_at_call 84; refine H2.out.mono ?_; rintro e w2 ⟨rfl, rfl⟩))
    go_ret
    exact ⟨rfl, rfl⟩
theorem risErr_any (v6 : Bool) (k : Int) (h : 0 ≤ k ∧ k ≤ 255) (w : World) : Calls Try.prog 34 #[.bool v6, .int .u8 k] w fun e w' => e = .returned (.bool (errK v6 k)) ∧ w = w' := by
  cases v6
  · have H : k = 3 ∨ k = 4 ∨ k = 5 ∨ k = 11 ∨ k = 12 ∨ (k ≠ 3 ∧ k ≠ 4 ∧ k ≠ 5 ∧ k ≠ 11 ∧ k ≠ 12) := by omega
    rcases H with rfl | rfl | rfl | rfl | rfl | ⟨h1, h2, h3, h4, h5⟩
    iterate 5
      · clear h
        go_enter Try.func34, Try.ntmps34
        go_wp2
        go_ret
        exact ⟨rfl, rfl⟩
    · have e1 : (k == 3) = false := by simp; omega
      have e2 : (k == 4) = false := by simp; omega
      have e3 : (k == 5) = false := by simp; omega
      have e4 : (k == 11) = false := by simp; omega
      have e5 : (k == 12) = false := by simp; omega
      have er : errK false k = false := by unfold errK; simp; omega
      rw [er]
      clear h1 h2 h3 h4 h5 h er
      go_enter Try.func34, Try.ntmps34
      go_wp2
      go_ret
      exact ⟨rfl, rfl⟩
  · by_cases h1 : 1 ≤ k
    · by_cases h4 : k ≤ 4
      · have er : errK true k = true := by unfold errK; simp; omega
        rw [er]
        clear h er
        go_enter Try.func34, Try.ntmps34
        go_wp2
        go_ret
        exact ⟨rfl, rfl⟩
      · have er : errK true k = false := by unfold errK; simp; omega
        have h4' : 4 < k := by omega
        rw [er]
        clear h er h4
        go_enter Try.func34, Try.ntmps34
        go_wp2
        go_ret
        exact ⟨by simp; omega, rfl⟩
    · have er : errK true k = false := by unfold errK; simp; omega
      have h1' : k < 1 := by omega
      rw [er]
      clear h er h1
      go_enter Try.func34, Try.ntmps34
      go_wp2
      go_ret
      exact ⟨rfl, rfl⟩
end Go.Proofs.Ytlchegibfopglaa
/- Flows in memory: their fields, built, loaded, compared. -/
namespace Go.Proofs.Ytlchegibfopglaa
set_option maxRecDepth 100000
open Go.RowKit
theorem tup_proto (v6 : Bool) (a b : Int) (s d : Nat → Int) (sp dp : Int) : (tupc v6 a s d sp dp).setIfInBounds 1 (.int .u8 b) = tupc v6 b s d sp dp := rfl
theorem tup_src (v6 : Bool) (a : Int) (s s' d : Nat → Int) (sp dp : Int) : laid (tupc v6 a s d sp dp) 2 (arr16 s').toList = tupc v6 a s' d sp dp := by kernel_rfl
theorem tup_dst (v6 : Bool) (a : Int) (s d d' : Nat → Int) (sp dp : Int) : laid (tupc v6 a s d sp dp) 18 (arr16 d').toList = tupc v6 a s d' sp dp := by kernel_rfl
theorem tup_srcs (v : Bool) (pr : Int) (s d : Nat → Int) (sp dp : Int) (k : Nat) (hk : k < 16) : (tupc v pr s d sp dp)[2 + k]? = some (.int .u8 (s k)) := by
  match k, hk with
  | 0, _ => rfl
  | 1, _ => rfl
  | 2, _ => rfl
  | 3, _ => rfl
  | 4, _ => rfl
  | 5, _ => rfl
  | 6, _ => rfl
  | 7, _ => rfl
  | 8, _ => rfl
  | 9, _ => rfl
  | 10, _ => rfl
  | 11, _ => rfl
  | 12, _ => rfl
  | 13, _ => rfl
  | 14, _ => rfl
  | 15, _ => rfl
  | k + 16, h => exact absurd h (by omega)
theorem tup_dsts (v : Bool) (pr : Int) (s d : Nat → Int) (sp dp : Int) (k : Nat) (hk : k < 16) : (tupc v pr s d sp dp)[18 + k]? = some (.int .u8 (d k)) := by
  match k, hk with
  | 0, _ => rfl
  | 1, _ => rfl
  | 2, _ => rfl
  | 3, _ => rfl
  | 4, _ => rfl
  | 5, _ => rfl
  | 6, _ => rfl
  | 7, _ => rfl
  | 8, _ => rfl
  | 9, _ => rfl
  | 10, _ => rfl
  | 11, _ => rfl
  | 12, _ => rfl
  | 13, _ => rfl
  | 14, _ => rfl
  | 15, _ => rfl
  | k + 16, h => exact absurd h (by omega)
/-- An array that lies in a block. -/
theorem blk_range {W : World} {g o : Nat} {cs : Array Value} {t : TypeId} {f : Nat → Int} (h : W.heap[g]? = some (.cells cs t (0, 0))) (hf : ∀ k, k < 16 → cs[o + k]? = some (.int .u8 (f k))) : W.rangeAt g o (arr16 f).toList := fun j v hv => by
  have hj : j < 16 := by
    rcases Nat.lt_or_ge j 16 with q | q
    · exact q
    · rw [List.getElem?_eq_none (by simpa [arr16] using q)] at hv; cases hv
  rw [blk_cell h (o + j), hf j hj, ← hv]
  simpa using (arr16_get f j hj).symm
theorem wpList_tup {ops : Array Oper} {rest : List Oper} {op : Oper} {a : Act} {w : World} {Q : Exit → Act → World → Prop} (hw : Region.wanted op (yielded ops a.tmps) = true) (x0 x1 x2 x3 x4 x5 : Operand) (ho : op.op = .build 26 #[(0, x0), (1, x1), (2, x2), (3, x3), (4, x4), (5, x5)])
    (v : Bool) (pr : Int) (s d : Nat → Int) (sp dp : Int) (h0 : a.eval x0 = .bool v) (h1 : a.eval x1 = .int .u8 pr) (h2 : a.eval x2 = .agg (arr16 s)) (h3 : a.eval x3 = .agg (arr16 d)) (h4 : a.eval x4 = .int .u16 sp) (h5 : a.eval x5 = .int .u16 dp)
    (h : wpList Try.prog ops Q rest (a.put op.dst (.agg (tupc v pr s d sp dp))) w) : wpList Try.prog ops Q (op :: rest) a w := by
  have hb : (Instr.build 26 #[(0, .bool v), (1, .int .u8 pr), (2, .agg (arr16 s)), (3, .agg (arr16 d)), (4, .int .u16 sp), (5, .int .u16 dp)]).run Try.prog w = .ok (.agg (tupc v pr s d sp dp)) w := by kernel_rfl
  refine BigFrame.wpList_want hw fun K hK => ?_
  unfold Oper.wp execOp
  simp only [ho, List.map_toArray, List.map_cons, List.map_nil, h0, h1, h2, h3, h4, h5, Sem.run_bind, Sem.run_pure, Result.andThen_ok, hb]
  exact hK _ _ h
theorem eqT (v : Bool) (pr : Int) (s e : Nat → Int) (sp dp : Int) (w : World) : (Op.equalIn 10000 26 (.agg (tupc v pr s e sp dp)) (.agg (tupc v pr s e sp dp))).run Try.prog w = .ok true w := by
  have hf : Try.prog.underlying 26 = some (.struct (Try.prog.fieldsOf 26)) := by kernel_rfl
  rw [run_equalIn_struct w 9999 26 _ _ hf (by kernel_rfl)]
  have e1 : ∀ (a : Int) (w : World), (Op.equalIn 9999 24 (.int .u16 a) (.int .u16 a)).run Try.prog w = .ok true w := fun a w => by
    have h := run_equalIn_int (P := Try.prog) w 9998 24 .u16 .u16 a a Try.underlying24
    simpa using h
  have e2 : ∀ (b : Bool) (w : World), (Op.equalIn 9999 4 (.bool b) (.bool b)).run Try.prog w = .ok true w := fun b w => by
    have h := run_equalIn_bool' (P := Try.prog) w 9998 4 b b Try.underlying4
    simpa using h
  have e3 : ∀ (a : Int) (w : World), (Op.equalIn 9999 5 (.int .u8 a) (.int .u8 a)).run Try.prog w = .ok true w := fun a w => by
    have h := run_equalIn_int (P := Try.prog) w 9998 5 .u8 .u8 a a Try.underlying5
    simpa using h
  have e4 : ∀ (x : Nat → Int) (w : World), (Op.equalIn 9999 23 (.agg (arr16 x)) (.agg (arr16 x))).run Try.prog w = .ok true w := fun x w => by
    have h := equal_bytes (P := Try.prog) 9997 23 5 16 (arr16 x) (arr16 x) x x Try.underlying23 Try.underlying5 (by kernel_rfl) (fun k hk => arr16_get x k hk) (fun k hk => arr16_get x k hk) w
    rw [eqs_self] at h
    exact h
  have hl : (Try.prog.fieldsOf 26).toList = [{ name := "V6", type := 4, offset := 0, embedded := false, tag := "", pkgPath := "", byteOffset := 0 }, { name := "Proto", type := 5, offset := 1, embedded := false, tag := "", pkgPath := "", byteOffset := 1 }, { name := "Src", type := 23, offset := 2, embedded := false, tag := "", pkgPath := "", byteOffset := 2 }, { name := "Dst", type := 23, offset := 18, embedded := false, tag := "", pkgPath := "", byteOffset := 18 }, { name := "SPort", type := 24, offset := 34, embedded := false, tag := "", pkgPath := "", byteOffset := 34 }, { name := "DPort", type := 24, offset := 35, embedded := false, tag := "", pkgPath := "", byteOffset := 36 }] := by kernel_rfl
  rw [hl]
  have p0 : (part 4 (tupc v pr s e sp dp) 0).run Try.prog w = .ok (.bool v) w := by kernel_rfl
  have p1 : (part 5 (tupc v pr s e sp dp) 1).run Try.prog w = .ok (.int .u8 pr) w := by kernel_rfl
  have p2 : (part 23 (tupc v pr s e sp dp) 2).run Try.prog w = .ok (.agg (arr16 s)) w := by kernel_rfl
  have p3 : (part 23 (tupc v pr s e sp dp) 18).run Try.prog w = .ok (.agg (arr16 e)) w := by kernel_rfl
  have p4 : (part 24 (tupc v pr s e sp dp) 34).run Try.prog w = .ok (.int .u16 sp) w := by kernel_rfl
  have p5 : (part 24 (tupc v pr s e sp dp) 35).run Try.prog w = .ok (.int .u16 dp) w := by kernel_rfl
  refine Eq.trans (eqF_step (by decide) p0 p0 (e2 v w)) ?_
  refine Eq.trans (eqF_step (by decide) p1 p1 (e3 pr w)) ?_
  refine Eq.trans (eqF_step (by decide) p2 p2 (e4 s w)) ?_
  refine Eq.trans (eqF_step (by decide) p3 p3 (e4 e w)) ?_
  refine Eq.trans (eqF_step (by decide) p4 p4 (e1 sp w)) ?_
  refine Eq.trans (eqF_step (by decide) p5 p5 (e1 dp w)) ?_
  simp only [Op.eqFields, Sem.run_pure]
end Go.Proofs.Ytlchegibfopglaa
/- Layer 6: addresses, the sums of a message (the program's and the document's). -/
namespace Go.Proofs.Ytlchegibfopglaa
set_option maxRecDepth 100000
open Go.RowKit
/-- The first k of them. -/
def fst16 (f : Nat → Int) (a k j : Nat) : Int := if j < k then f (a + j) else 0
theorem fst16_step (f : Nat → Int) (a k : Nat) (hk : k < 16) : (arr16 (fst16 f a k)).setIfInBounds k (.int .u8 (f (a + k))) = arr16 (fst16 f a (k + 1)) := by
  rw [arr16_set _ _ k hk]
  refine arr16_ext fun j _ => ?_
  unfold fst16
  by_cases h : j = k
  · subst h; rw [if_pos rfl, if_pos (by omega)]
  · rw [if_neg h]
    by_cases h2 : j < k
    · rw [if_pos h2, if_pos (by omega)]
    · rw [if_neg h2, if_neg (by omega)]
set_option maxHeartbeats 1000000 in
theorem addr_any (b off n c a m : Nat) (f : Nat → Int) (hm : m ≤ 16) (ha : a + m ≤ n) (hn : n ≤ 4611686018427387904) (w : World) (hb : b < w.heap.size) (hc : ∀ k, k < n → w.cell? ⟨b, off + k, none⟩ = some (.int .u8 (f k))) :
    Calls Try.prog 68 #[.slice (some ⟨b, off, none⟩) n c, .int .i64 (a : Int), .int .i64 (m : Int)] w fun e w' => e = .returned (.agg (arr16 (fst16 f a m))) ∧ Below w.heap.size w w' := by
  have HC := Lib.hid hc
  clear hc
  have hb0 : Below w.heap.size w ((w.alloc (.cells (arr16 fun _ => 0) 23)).alloc (.cells (arr16 fun _ => 0) 23)) := below_alloc2 w _ _
  have e1 : (w.alloc (.cells (arr16 fun _ => 0) 23)).heap.size = w.heap.size + 1 := by simp
  have k0 : ((w.alloc (.cells (arr16 fun _ => 0) 23)).alloc (.cells (arr16 fun _ => 0) 23)).heap[w.heap.size]? = some (.cells (arr16 fun _ => 0) 23 (0, 0)) := blk_old (heap_alloc_new w _) _
  have k1 : ((w.alloc (.cells (arr16 fun _ => 0) 23)).alloc (.cells (arr16 fun _ => 0) 23)).heap[w.heap.size + 1]? = some (.cells (arr16 fun _ => 0) 23 (0, 0)) := by rw [← e1]; exact heap_alloc_new _ _
  have HK0 := Lib.hid k0
  have HK1 := Lib.hid k1
  have HB0 := Lib.hid hb0
  clear k0 k1 hb0 e1
  go_enter Try.func68, Try.ntmps68
  go_wp2
  change Code.wp _ _ _ _ ((w.alloc (.cells (arr16 fun _ => 0) 23)).alloc (.cells (arr16 fun _ => 0) 23))
  generalize (w.alloc (.cells (arr16 fun _ => 0) 23)).alloc (.cells (arr16 fun _ => 0) 23) = w1 at *
  go_loopw [8] (fun i wr => ∃ k : Nat, k ≤ m ∧ i = .int .i64 (k : Int) ∧ Hid (wr.heap[w.heap.size]? = some (.cells (arr16 fun _ => 0) 23 (0, 0))) ∧
    Hid (wr.heap[w.heap.size + 1]? = some (.cells (arr16 (fst16 f a k)) 23 (0, 0))) ∧ Hid (Below w.heap.size w wr)) (fun i _ => m - (intOf i).toNat)
  case atStart => exact ⟨0, by omega, rfl, HK0, Lib.hid (by rw [HK1.out]; rfl), HB0⟩
  case round =>
    clear HK0 HK1 HB0
    obtain ⟨k, hk, rfl, HZ, HE, HB⟩ := hrel
    by_cases hlt : k < m
    · have hlt16 : k < 16 := by omega
      have hx := (HB.out.cell (p := ⟨b, off + (a + k), none⟩) hb).trans (HC.out (a + k) (by omega))
      have hcx := (blk_cell HE.out k).trans (arr16_get _ k hlt16)
      have hfx := blk_free HE.out k
      have HN : Hid ((wr.setCell ⟨w.heap.size + 1, k, none⟩ (.int .u8 (f (a + k)))).heap[w.heap.size + 1]? = some (.cells (arr16 (fst16 f a (k + 1))) 23 (0, 0))) := by
        refine Lib.hid ?_
        rw [← fst16_step f a k hlt16]
        exact blk_set HE.out k _
      have HN0 : Hid ((wr.setCell ⟨w.heap.size + 1, k, none⟩ (.int .u8 (f (a + k)))).heap[w.heap.size]? = some (.cells (arr16 fun _ => 0) 23 (0, 0))) :=
        Lib.hid (blk_far HZ.out (by simp) _)
      have HBN : Hid (Below w.heap.size w (wr.setCell ⟨w.heap.size + 1, k, none⟩ (.int .u8 (f (a + k))))) := HB.out.setCell (by simp) _
      have i0 : (k : Int) < (m : Int) := by omega
      have i8 : (k : Int) < 16 := by omega
      have i1 : (0 : Int) ≤ (k : Int) := by omega
      have i2 : IntKind.i64.wrap ((a : Int) + (k : Int)) = (a : Int) + (k : Int) := by rw [IntKind.wrap_i64]; omega
      have i3 : (0 : Int) ≤ (a : Int) + (k : Int) := by omega
      have i4 : (a : Int) + (k : Int) < (n : Int) := by omega
      have i5 : ((a : Int) + (k : Int)).toNat = a + k := by omega
      have i6 : ((k : Int)).toNat = k := by omega
      have i7 : IntKind.i64.wrap ((k : Int) + 1) = (k : Int) + 1 := by rw [IntKind.wrap_i64]; omega
      go_wp2
      go_roundw
      case rel => exact ⟨k + 1, by omega, by simp, HN0, HN, HBN⟩
      case measure => simp [intOf]; omega
    · obtain rfl : m = k := by omega
      clear hlt hk
      go_wp2_with (first
        | (refine wpList_load_row rfl 23 (.tmp 7) rfl (w.heap.size + 1) rfl 23 (arr16 (fst16 f a m)) (0, 0) _ HE.out Try.underlying23 rfl (by kernel_rfl) ?_)
        | (refine wpList_store_row rfl 23 (.tmp 6) (.tmp 22) rfl w.heap.size (arr16 (fst16 f a m)) rfl rfl 23 (arr16 fun _ => 0) HZ.out (by kernel_rfl) rfl (arr16_one _) ?_))
      have hz := setRow_heap wr w.heap.size _ (arr16 (fst16 f a m)) _ _ HZ.out
      refine bodyPost_ret (v := .agg (arr16 (fst16 f a m))) (results_cell_row Try.results68 _ _ w.heap.size 23 (arr16 (fst16 f a m)) (0, 0) _ rfl hz Try.underlying23 rfl (by kernel_rfl)) rfl ⟨rfl, ?_⟩
      exact below_setRow HB.out (Nat.le_refl _) _
theorem ofv_rgt (f : Nat → Int) (n : Nat) : ofv f n = rgt 0 f n := rfl
set_option maxHeartbeats 1000000 in
theorem isum_any (v6 : Bool) (s d : Nat → Int) (hs : Byt s) (hd : Byt d) (A : Option Addr) (n c : Nat) (f : Nat → Int) (hf : Byt f) (hn : n ≤ 4611686018427387900) (hcap : n ≤ c) (w : World) (hr : Rd w w.heap.size A n f) :
    Calls Try.prog 61 #[.bool v6, .agg (arr16 s), .agg (arr16 d), .slice A n c] w fun e w' => e = .returned (.int .u16 (rgt (mS v6 s d n) f n)) ∧ Below w.heap.size w w' := by
  have HX := Lib.hid (Box2.start w s d)
  have HR := Lib.hid hr
  cases v6
  · have HO : Hid (∀ W, Rd W W.heap.size A n f → Calls Try.prog 56 #[.slice A n c] W fun e w' => e = .returned (.int .u16 (rgt (mS false s d n) f n)) ∧ Below W.heap.size W w') := Lib.hid fun W h => by
      have q := of_any A n c f hf hn hcap W h
      rw [ofv_rgt] at q
      exact q
    clear hs hd hf hr
    generalize rgt (mS false s d n) f n = r at *
    go_enter Try.func61, Try.ntmps61
    go_upto_region 2 with fail
    change Code.wp _ _ _ _ ((w.alloc (.cells (arr16 s) 23)).alloc (.cells (arr16 d) 23))
    generalize (w.alloc (.cells (arr16 s) 23)).alloc (.cells (arr16 d) 23) = w2 at *
    go_wp2_with (go_at_call 56; refine (HO.out _ ((HR.out.keep HX.out.below).more HX.out.below.size)).mono ?_; rintro e w3 ⟨rfl, hb3⟩; have HB3 : Hid (Below w.heap.size w w3) := HX.out.below.trans (hb3.mono HX.out.below.size); clear hb3)
    go_ret
    exact ⟨rfl, HB3.out⟩
  · have hSb := psq_bd true hs hd (pr := 58) (by omega) (by omega) n
    have HP := Lib.hid fun W => pseudo_any true s d hs hd 58 (by omega) (by omega) n (by omega) W
    have e : mS true s d n = psq true s d 58 n := by unfold mS; rw [if_pos rfl]
    rw [e]
    unfold rgt
    generalize psq true s d 58 n = S at *
    have HA := Lib.hid fun W hr => add_any S false A n c f hf hn hcap W hSb.1 hSb.2 hr
    have hb := fld_bd (p := (S, false)) hf hSb n
    generalize fld f (S, false) n = q at *
    have HE := Lib.hid fun W => end_any q.1 q.2 W hb.1 hb.2
    clear hs hd hf hr hSb hb e
    go_enter Try.func61, Try.ntmps61
    go_upto_region 3 with fail
    change Code.wp _ _ _ _ ((w.alloc (.cells (arr16 s) 23)).alloc (.cells (arr16 d) 23))
    generalize (w.alloc (.cells (arr16 s) 23)).alloc (.cells (arr16 d) 23) = w2 at *
    go_wp2_with (first
      | (refine wpList_load_roww rfl 23 (.tmp 5) rfl w.heap.size rfl 23 (arr16 s) (0, 0) _ HX.out.b0 Try.underlying23 rfl (by kernel_rfl) ?_)
      | (refine wpList_load_roww rfl 23 (.tmp 6) rfl (w.heap.size + 1) rfl 23 (arr16 d) (0, 0) _ HX.out.b1 Try.underlying23 rfl (by kernel_rfl) ?_)
      | (go_at_call 75; refine (HP.out _).mono ?_; rintro e w3 ⟨rfl, hb3⟩; have HB3 : Hid (Below w.heap.size w w3) := HX.out.below.trans (hb3.mono HX.out.below.size); clear hb3)
      | (go_at_call 74; refine (HA.out _ ((HR.out.keep HB3.out).more HB3.out.size)).mono ?_; rintro e w4 ⟨rfl, hb4⟩; have HB4 : Hid (Below w.heap.size w w4) := HB3.out.trans (hb4.mono HB3.out.size); clear hb4)
      | (go_at_call 73; refine (HE.out _).mono ?_; rintro e w5 ⟨rfl, hb5⟩; have HB5 : Hid (Below w.heap.size w w5) := HB4.out.trans (hb5.mono HB4.out.size); clear hb5))
    go_ret
    exact ⟨rfl, HB5.out⟩
set_option maxHeartbeats 1000000 in
theorem iright_any (v6 : Bool) (s d : Nat → Int) (hs : Byt s) (hd : Byt d) (A : Option Addr) (n c : Nat) (f : Nat → Int) (hf : Byt f) (hn : n ≤ 4611686018427387900) (w : World) (hr : Rd w w.heap.size A n f) :
    Calls Try.prog 33 #[.bool v6, .agg (arr16 s), .agg (arr16 d), .slice A n c] w fun e w' => e = .returned (.int .u16 (rgt (mS v6 s d n) f n)) ∧ Below w.heap.size w w' := by
  have HX := Lib.hid (Box2.start w s d)
  have HR := Lib.hid hr
  cases v6
  · have HO : Hid (∀ W, Rd W W.heap.size A n f → Calls Try.prog 46 #[.slice A n c] W fun e w' => e = .returned (.int .u16 (rgt (mS false s d n) f n)) ∧ Below W.heap.size W w') := Lib.hid fun W h => by
      have q := rof_any A n c f hf hn W h
      rw [ofv_rgt] at q
      exact q
    clear hs hd hf hr
    generalize rgt (mS false s d n) f n = r at *
    go_enter Try.func33, Try.ntmps33
    go_upto_region 3 with fail
    change Code.wp _ _ _ _ ((w.alloc (.cells (arr16 s) 23)).alloc (.cells (arr16 d) 23))
    generalize (w.alloc (.cells (arr16 s) 23)).alloc (.cells (arr16 d) 23) = w2 at *
    go_wp2_with (go_at_call 46; refine (HO.out _ ((HR.out.keep HX.out.below).more HX.out.below.size)).mono ?_; rintro e w3 ⟨rfl, hb3⟩; have HB3 : Hid (Below w.heap.size w w3) := HX.out.below.trans (hb3.mono HX.out.below.size); clear hb3)
    go_ret
    exact ⟨rfl, HB3.out⟩
  · have e : mS true s d n = psq true s d 58 n := by unfold mS; rw [if_pos rfl]
    rw [e]
    have HO := Lib.hid fun W hr => right_any true s d hs hd 58 (by omega) (by omega) A n c f hf hn W hr
    clear hs hd hf hr e
    generalize rgt (psq true s d 58 n) f n = r at *
    go_enter Try.func33, Try.ntmps33
    go_upto_region 2 with fail
    change Code.wp _ _ _ _ ((w.alloc (.cells (arr16 s) 23)).alloc (.cells (arr16 d) 23))
    generalize (w.alloc (.cells (arr16 s) 23)).alloc (.cells (arr16 d) 23) = w2 at *
    go_wp2_with (first
      | (refine wpList_load_roww rfl 23 (.tmp 5) rfl w.heap.size rfl 23 (arr16 s) (0, 0) _ HX.out.b0 Try.underlying23 rfl (by kernel_rfl) ?_)
      | (refine wpList_load_roww rfl 23 (.tmp 6) rfl (w.heap.size + 1) rfl 23 (arr16 d) (0, 0) _ HX.out.b1 Try.underlying23 rfl (by kernel_rfl) ?_)
      | (go_at_call 32; refine (HO.out _ ((HR.out.keep HX.out.below).more HX.out.below.size)).mono ?_; rintro e w3 ⟨rfl, hb3⟩; have HB3 : Hid (Below w.heap.size w w3) := HX.out.below.trans (hb3.mono HX.out.below.size); clear hb3))
    go_ret
    exact ⟨rfl, HB3.out⟩
end Go.Proofs.Ytlchegibfopglaa
