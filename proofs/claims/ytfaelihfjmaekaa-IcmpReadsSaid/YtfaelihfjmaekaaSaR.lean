/- Layer 5, for later layers: the sums behind a pseudo header (Pseudo of both, the document's Right); what reads a header's words. -/
import Derived.Test.YtfaelihfjmaekaaRPseudo
import Derived.Test.YtfaelihfjmaekaaSegSpec
import Derived.Test.YtfaelihfjmaekaaGen
namespace Go.Proofs.Ytfaelihfjmaekaa
open Go.RowKit
theorem pseudo_any (v6 : Bool) (f g : Nat → Int) (hf : Byt f) (hg : Byt g) (pr : Int) (h1 : 0 ≤ pr) (h2 : pr ≤ 255) (n : Nat) (hn : n ≤ 9223372036854775807) (w : World) :
    Calls Try.prog 31 #[.bool v6, .agg (arr16 f), .agg (arr16 g), .int .u8 pr, .int .i64 (n : Int)] w fun e w' => e = .returned (.agg #[.int .u16 (psq v6 f g pr n), .bool false]) ∧ Below w.heap.size w w' := by
  have e := psum_mk v6 f g pr n
  cases v6
  · have h := pseudo4 f g hf hg pr (n : Int) h1 h2 (by omega) (by omega) w
    rw [e] at h
    dsimp only at h
    exact h
  · have h := pseudo6 f g hf hg pr (n : Int) h1 h2 (by omega) (by omega) w
    rw [e] at h
    dsimp only at h
    exact h
theorem rpseudo_any (v6 : Bool) (f g : Nat → Int) (hf : Byt f) (hg : Byt g) (pr : Int) (h1 : 0 ≤ pr) (h2 : pr ≤ 255) (n : Nat) (hn : n ≤ 9223372036854775807) (w : World) :
    Calls Try.prog 45 #[.bool v6, .agg (arr16 f), .agg (arr16 g), .int .u8 pr, .int .i64 (n : Int)] w fun e w' => e = .returned (.agg #[.int .u16 (psq v6 f g pr n), .bool false]) ∧ Below w.heap.size w w' := by
  have e := psum_mk v6 f g pr n
  cases v6
  · have h := rpseudo4 f g hf hg pr (n : Int) h1 h2 (by omega) (by omega) w
    rw [e] at h
    dsimp only at h
    exact h
  · have h := rpseudo6 f g hf hg pr (n : Int) h1 h2 (by omega) (by omega) w
    rw [e] at h
    dsimp only at h
    exact h
theorem arr16_one (f : Nat → Int) : (arr16 f).all (·.oneCell') = true := by simp [arr16, Value.oneCell']
/-- Two addresses that were boxed. -/
structure Box2 (w W : World) (s d : Nat → Int) : Prop where
  b0 : W.heap[w.heap.size]? = some (.cells (arr16 s) 22 (0, 0))
  b1 : W.heap[w.heap.size + 1]? = some (.cells (arr16 d) 22 (0, 0))
  below : Below w.heap.size w W
theorem Box2.start (w : World) (s d : Nat → Int) : Box2 w ((w.alloc (.cells (arr16 s) 22)).alloc (.cells (arr16 d) 22)) s d := by
  have e1 : (w.alloc (.cells (arr16 s) 22)).heap.size = w.heap.size + 1 := by simp
  refine ⟨blk_old (heap_alloc_new w _) _, ?_, below_alloc2 w _ _⟩
  rw [← e1]
  exact heap_alloc_new _ _
theorem Box2.step {w W W' : World} {s d : Nat → Int} (h : Box2 w W s d) (hb : Below W.heap.size W W') : Box2 w W' s d :=
  ⟨(hb.block _ (lt_heap h.b0)).trans h.b0, (hb.block _ (lt_heap h.b1)).trans h.b1, h.below.trans (hb.mono h.below.size)⟩
set_option maxHeartbeats 1000000 in
theorem right_any (v6 : Bool) (s d : Nat → Int) (hs : Byt s) (hd : Byt d) (pr : Int) (h1 : 0 ≤ pr) (h2 : pr ≤ 255) (A : Option Addr) (n c : Nat) (f : Nat → Int) (hf : Byt f) (hn : n ≤ 4611686018427387900) (w : World) (hr : Rd w w.heap.size A n f) :
    Calls Try.prog 32 #[.bool v6, .agg (arr16 s), .agg (arr16 d), .int .u8 pr, .slice A n c] w fun e w' => e = .returned (.int .u16 (rgt (psq v6 s d pr n) f n)) ∧ Below w.heap.size w w' := by
  have hSb := psq_bd v6 hs hd h1 h2 n
  have HP := Lib.hid fun W => rpseudo_any v6 s d hs hd pr h1 h2 n (by omega) W
  unfold rgt
  generalize psq v6 s d pr n = S at *
  have HA := Lib.hid fun W hr => radd_any S false A n c f hf hn W hSb.1 hSb.2 hr
  have hb := fld_bd (p := (S, false)) hf hSb n
  generalize fld f (S, false) n = q at *
  have HE := Lib.hid fun W => rend_any q.1 q.2 W hb.1 hb.2
  have HR := Lib.hid hr
  have HX := Lib.hid (Box2.start w s d)
  clear hs hd hf hr hSb hb
  go_enter Try.func32, Try.ntmps32
  go_upto_region 1 with fail
  change Code.wp _ _ _ _ ((w.alloc (.cells (arr16 s) 22)).alloc (.cells (arr16 d) 22))
  generalize (w.alloc (.cells (arr16 s) 22)).alloc (.cells (arr16 d) 22) = w2 at *
  go_wp2_with (first
    | (refine wpList_load_roww rfl 22 (.tmp 6) rfl w.heap.size rfl 22 (arr16 s) (0, 0) _ HX.out.b0 Try.underlying22 rfl (by kernel_rfl) ?_)
    | (refine wpList_load_roww rfl 22 (.tmp 7) rfl (w.heap.size + 1) rfl 22 (arr16 d) (0, 0) _ HX.out.b1 Try.underlying22 rfl (by kernel_rfl) ?_)
    | (go_at_call 45; refine (HP.out _).mono ?_; rintro e w3 ⟨rfl, hb3⟩; have HB3 : Hid (Below w.heap.size w w3) := HX.out.below.trans (hb3.mono HX.out.below.size); clear hb3)
    | (go_at_call 44; refine (HA.out _ ((HR.out.keep HB3.out).more HB3.out.size)).mono ?_; rintro e w4 ⟨rfl, hb4⟩; have HB4 : Hid (Below w.heap.size w w4) := HB3.out.trans (hb4.mono HB3.out.size); clear hb4)
    | (go_at_call 43; refine (HE.out _).mono ?_; rintro e w5 ⟨rfl, hb5⟩; have HB5 : Hid (Below w.heap.size w w5) := HB4.out.trans (hb5.mono HB4.out.size); clear hb5))
  go_ret
  exact ⟨rfl, HB5.out⟩
/-- What reads a header's words, as it lies in memory. -/
def wdV (p : Nat) : Value := .func (.func 37) #[] #[.pointer (some ⟨p, 0, none⟩)]
set_option maxHeartbeats 1000000 in
theorem word_any (p b off n c at_ : Nat) (f : Nat → Int) (hf : Byt f) (hat : at_ + 1 < n) (hn : n ≤ 4611686018427387904) (w : World) (hp : w.cell? ⟨p, 0, none⟩ = some (.slice (some ⟨b, off, none⟩) n c)) (hc : ∀ k, k < n → w.cell? ⟨b, off + k, none⟩ = some (.int .u8 (f k))) :
    Calls Try.prog 37 #[.int .i64 (at_ : Int), .pointer (some ⟨p, 0, none⟩)] w fun e w' => e = .returned (.int .u16 (w2 f at_)) ∧ Below w.heap.size w w' := by
  have x0 := hc at_ (by omega)
  have x1 := hc (at_ + 1) (by omega)
  have p0 := hf at_
  have p1 := hf (at_ + 1)
  unfold w2
  have z0 : IntKind.u16.wrap (f at_) = f at_ := by rw [IntKind.wrap_u16]; omega
  have z1 : IntKind.u16.wrap (f (at_ + 1)) = f (at_ + 1) := by rw [IntKind.wrap_u16]; omega
  have z2 : IntKind.u16.wrap (f at_ * 256) = f at_ * 256 := by rw [IntKind.wrap_u16]; omega
  have z3 : bits .or .u16 (f at_ * 256) (f (at_ + 1)) = f at_ * 256 + f (at_ + 1) := or_u16 _ _ 256 8 rfl (by omega) (by omega) (by omega) (by omega)
  have i0 : (0 : Int) ≤ (at_ : Int) := by omega
  have i1 : (at_ : Int) < (n : Int) := by omega
  have i2 : (0 : Int) ≤ (at_ : Int) + 1 := by omega
  have i3 : (at_ : Int) + 1 < (n : Int) := by omega
  have i4 : ((at_ : Int)).toNat = at_ := by omega
  have i5 : ((at_ : Int) + 1).toNat = at_ + 1 := by omega
  have i6 : IntKind.i64.wrap ((at_ : Int) + 1) = (at_ : Int) + 1 := by rw [IntKind.wrap_i64]; omega
  clear hc hf
  go_enter Try.func37, Try.ntmps37
  go_wp2
  go_quiet (fail)
  go_wp2
  go_ret
  exact ⟨rfl, below_drewN (Below.refl _ _) _⟩
/-- What reader tells: a closure over the slice, that lies in a new block. -/
theorem reader_any (v : Value) (A : Option Addr) (n c : Nat) (hv : v = .slice A n c) (w : World) :
    Calls Try.prog 25 #[v] w fun e w' => e = .returned (wdV w.heap.size) ∧ w' = w.alloc (.cells #[.slice A n c] 23) := by
  subst hv
  have hmf : ∀ (fn : Fn) (first cap : Array Value) (w : World), (Instr.makeFunc fn first cap).run Try.prog w = .ok (.func fn first cap) w := fun _ _ _ _ => rfl
  go_enter Try.func25, Try.ntmps25
  go_wp2
  go_ret
  exact ⟨rfl, rfl⟩
end Go.Proofs.Ytfaelihfjmaekaa
