import Derived.Test.YtlchegibfopglaaK8
import Derived.Test.YtlchegibfopglaaK1
import Derived.Test.YtlchegibfopglaaK6
import Derived.Test.YtlchegibfopglaaK7
/- Layer 5: the sum of a segment behind its pseudo header; the closures that read a header's numbers; Ports. -/
namespace Go.Proofs.Ytlchegibfopglaa
set_option maxRecDepth 100000
open Go.RowKit
set_option maxHeartbeats 1000000 in
theorem sumOf_any (v6 : Bool) (s d : Nat → Int) (hs : Byt s) (hd : Byt d) (pr : Int) (h1 : 0 ≤ pr) (h2 : pr ≤ 255) (A : Option Addr) (n c : Nat) (f : Nat → Int) (hf : Byt f) (hn : n ≤ 4611686018427387900) (hcap : n ≤ c) (w : World) (hr : Rd w w.heap.size A n f) :
    Calls Try.prog 58 #[.bool v6, .agg (arr16 s), .agg (arr16 d), .int .u8 pr, .slice A n c] w fun e w' => e = .returned (.int .u16 (rgt (psq v6 s d pr n) f n)) ∧ Below w.heap.size w w' := by
  have hSb := psq_bd v6 hs hd h1 h2 n
  have HP := Lib.hid fun W => pseudo_any v6 s d hs hd pr h1 h2 n (by omega) W
  unfold rgt
  generalize psq v6 s d pr n = S at *
  have HA := Lib.hid fun W hr => add_any S false A n c f hf hn hcap W hSb.1 hSb.2 hr
  have hb := fld_bd (p := (S, false)) hf hSb n
  generalize fld f (S, false) n = q at *
  have HE := Lib.hid fun W => end_any q.1 q.2 W hb.1 hb.2
  have HR := Lib.hid hr
  have HX := Lib.hid (Box2.start w s d)
  clear hs hd hf hr hSb hb
  go_enter Try.func58, Try.ntmps58
  go_upto_region 1 with fail
  change Code.wp _ _ _ _ ((w.alloc (.cells (arr16 s) 23)).alloc (.cells (arr16 d) 23))
  generalize (w.alloc (.cells (arr16 s) 23)).alloc (.cells (arr16 d) 23) = w2 at *
  go_wp2_with (first
    | (refine wpList_load_roww rfl 23 (.tmp 6) rfl w.heap.size rfl 23 (arr16 s) (0, 0) _ HX.out.b0 Try.underlying23 rfl (by kernel_rfl) ?_)
    | (refine wpList_load_roww rfl 23 (.tmp 7) rfl (w.heap.size + 1) rfl 23 (arr16 d) (0, 0) _ HX.out.b1 Try.underlying23 rfl (by kernel_rfl) ?_)
    | (go_at_call 75; refine (HP.out _).mono ?_; rintro e w3 ⟨rfl, hb3⟩; have HB3 : Hid (Below w.heap.size w w3) := HX.out.below.trans (hb3.mono HX.out.below.size); clear hb3)
    | (go_at_call 74; refine (HA.out _ ((HR.out.keep HB3.out).more HB3.out.size)).mono ?_; rintro e w4 ⟨rfl, hb4⟩; have HB4 : Hid (Below w.heap.size w w4) := HB3.out.trans (hb4.mono HB3.out.size); clear hb4)
    | (go_at_call 73; refine (HE.out _).mono ?_; rintro e w5 ⟨rfl, hb5⟩; have HB5 : Hid (Below w.heap.size w w5) := HB4.out.trans (hb5.mono HB4.out.size); clear hb5))
  go_ret
  exact ⟨rfl, HB5.out⟩
set_option maxHeartbeats 1000000 in
theorem long_any (q p b off n c at_ : Nat) (f : Nat → Int) (hf : Byt f) (hat : at_ + 3 < n) (hn : n ≤ 4611686018427387904) (w : World) (hq : w.cell? ⟨q, 0, none⟩ = some (wdV p)) (hp : w.cell? ⟨p, 0, none⟩ = some (.slice (some ⟨b, off, none⟩) n c)) (hc : ∀ k, k < n → w.cell? ⟨b, off + k, none⟩ = some (.int .u8 (f k))) :
    Calls Try.prog 60 #[.int .i64 (at_ : Int), .pointer (some ⟨q, 0, none⟩)] w fun e w' => e = .returned (.int .u32 (w4 f at_)) ∧ Below w.heap.size w w' := by
  have hQ := Stay.cell hq
  unfold wdV at hQ
  have H0 := Lib.hid fun W : Stay w => word_any p b off n c at_ f hf (by omega) hn W.w (Stay.cell hp W) (fun k hk => Stay.cell (hc k hk) W)
  have H2 : Hid (∀ W : Stay w, Calls Try.prog 76 #[.int .i64 ((at_ : Int) + 2), .pointer (some ⟨p, 0, none⟩)] W.w fun e w' => e = .returned (.int .u16 (w2 f (at_ + 2))) ∧ Below W.w.heap.size W.w w') := fun W => by
    have h := word_any p b off n c (at_ + 2) f hf (by omega) hn W.w (Stay.cell hp W) (fun k hk => Stay.cell (hc k hk) W)
    rw [show ((at_ + 2 : Nat) : Int) = (at_ : Int) + 2 by omega] at h
    exact h
  have p0 := w2_bd hf at_
  have p2 := w2_bd hf (at_ + 2)
  have e4 : w4 f at_ = w2 f at_ * 65536 + w2 f (at_ + 2) := by
    unfold w4 w2
    rw [show at_ + 2 + 1 = at_ + 3 by omega]
    omega
  rw [e4]
  generalize w2 f at_ = x at *
  generalize w2 f (at_ + 2) = y at *
  have z0 : IntKind.u32.wrap x = x := by rw [IntKind.wrap_u32']; omega
  have z1 : IntKind.u32.wrap y = y := by rw [IntKind.wrap_u32']; omega
  have z2 : IntKind.u32.wrap (x * 65536) = x * 65536 := by rw [IntKind.wrap_u32']; omega
  have z3 : bits .or .u32 (x * 65536) y = x * 65536 + y := or_u32 _ _ 65536 16 rfl (by omega) (by omega) (by omega) (by omega)
  have i6 : IntKind.i64.wrap ((at_ : Int) + 2) = (at_ : Int) + 2 := by rw [IntKind.wrap_i64]; omega
  clear hc hf hp hq e4 p0 p2
  go_enter Try.func60, Try.ntmps60
  go_wp2
  refine wp_region_stay (by kernel_rfl) (by kernel_rfl) ?_
  repeat (go_big_quiet_step (first
    | (go_at_call 76; with_reducible exact Calls.stay _ (H0.out _))
    | (go_at_call 76; with_reducible exact Calls.stay _ (H2.out _))))
  refine wpQuiet_nil ?_
  intro w' hw'
  obtain ⟨W, rfl⟩ := hw'
  have hb2 := W.below
  go_wp2_with fail
  go_ret
  exact ⟨rfl, hb2⟩
end Go.Proofs.Ytlchegibfopglaa
/- Layer 5: headers in memory, what reading and writing tell. -/
namespace Go.Proofs.Ytlchegibfopglaa
set_option maxRecDepth 100000
open Go.RowKit
def tcpc (sp dp sq ak rest fl wi ur : Int) (o : Value) : Array Value := #[.int .u16 sp, .int .u16 dp, .int .u32 sq, .int .u32 ak, .int .u8 rest, .int .u8 fl, .int .u16 wi, .int .u16 ur, o]
def tcpz : Array Value := tcpc 0 0 0 0 0 0 0 0 (.slice none 0 0)
def udpc (sp dp : Int) (ns : Bool) : Array Value := #[.int .u16 sp, .int .u16 dp, .bool ns]
def udpz : Array Value := udpc 0 0 false
theorem tcp_one (sp dp sq ak rest fl wi ur : Int) (O : Option Addr) (on co : Nat) : (tcpc sp dp sq ak rest fl wi ur (.slice O on co)).all (·.oneCell') = true := by simp [tcpc, Value.oneCell']
theorem tcpz_one : tcpz.all (·.oneCell') = true := tcp_one ..
theorem udp_one (sp dp : Int) (ns : Bool) : (udpc sp dp ns).all (·.oneCell') = true := by simp [udpc, Value.oneCell']
theorem udpz_one : udpz.all (·.oneCell') = true := udp_one ..
/-- Two addresses that were boxed, and a third block. -/
structure Box3 (w W : World) (s d : Nat → Int) (cs : Array Value) (t : TypeId) : Prop where
  b0 : W.heap[w.heap.size]? = some (.cells (arr16 s) 23 (0, 0))
  b1 : W.heap[w.heap.size + 1]? = some (.cells (arr16 d) 23 (0, 0))
  b2 : W.heap[w.heap.size + 1 + 1]? = some (.cells cs t (0, 0))
  below : Below w.heap.size w W
theorem Box3.start (w : World) (s d : Nat → Int) (cs : Array Value) (t : TypeId) : Box3 w (((w.alloc (.cells (arr16 s) 23)).alloc (.cells (arr16 d) 23)).alloc (.cells cs t)) s d cs t := by
  have h := Box2.start w s d
  have e2 : ((w.alloc (Obj.cells (arr16 s) 23)).alloc (Obj.cells (arr16 d) 23)).heap.size = w.heap.size + 1 + 1 := by simp
  refine ⟨blk_old h.b0 _, blk_old h.b1 _, ?_, h.below.alloc h.below.size _⟩
  rw [← e2]
  exact heap_alloc_new _ _
theorem Box3.step {w W W' : World} {s d : Nat → Int} {cs : Array Value} {t : TypeId} (h : Box3 w W s d cs t) (hb : Below W.heap.size W W') : Box3 w W' s d cs t :=
  ⟨(hb.block _ (lt_heap h.b0)).trans h.b0, (hb.block _ (lt_heap h.b1)).trans h.b1, (hb.block _ (lt_heap h.b2)).trans h.b2, h.below.trans (hb.mono h.below.size)⟩
/-- .. where what lies below a later block's end is as it was. -/
theorem Box3.keep {w W W' : World} {s d : Nat → Int} {cs : Array Value} {t : TypeId} (h : Box3 w W s d cs t) (hb : Below (w.heap.size + 1 + 1 + 1) W W') : Box3 w W' s d cs t :=
  ⟨(hb.block _ (by omega)).trans h.b0, (hb.block _ (by omega)).trans h.b1, (hb.block _ (by omega)).trans h.b2, h.below.trans (hb.mono (by omega))⟩
theorem Box3.size {w W : World} {s d : Nat → Int} {cs : Array Value} {t : TypeId} (h : Box3 w W s d cs t) : w.heap.size + 1 + 1 + 1 ≤ W.heap.size := lt_heap h.b2
/-- What reading tells of a segment that is one. -/
def ReadTO (et : Nat) (f : Nat → Int) (n : Nat) (w : World) (e : Ending) (w' : World) : Prop :=
  ∃ O co P cp, e = .returned (.tuple #[.agg (tcpc (w2 f 0) (w2 f 2) (w4 f 4) (w4 f 8) (f 12 % 16) (f 13) (w2 f 14) (w2 f 18) (.slice O (tcpO f) co)), .slice P (n - (20 + tcpO f)) cp, .int .i64 0]) ∧
    Own w' w.heap.size et O (tcpO f) co (fun k => f (20 + k)) ∧ Own w' w.heap.size et P (n - (20 + tcpO f)) cp (fun k => f (20 + tcpO f + k)) ∧ Below w.heap.size w w'
def ReadT (et : Nat) (E : Int) (f : Nat → Int) (n : Nat) (w : World) (e : Ending) (w' : World) : Prop :=
  (E ≠ 0 ∧ e = .returned (.tuple #[.agg tcpz, .slice none 0 0, .int .i64 E]) ∧ Below w.heap.size w w') ∨ (E = 0 ∧ ReadTO et f n w e w')
def ReadUO (et : Nat) (f : Nat → Int) (n : Nat) (w : World) (e : Ending) (w' : World) : Prop :=
  ∃ P cp, e = .returned (.tuple #[.agg (udpc (w2 f 0) (w2 f 2) (decide (w2 f 6 = 0))), .slice P (n - 8) cp, .int .i64 0]) ∧ Own w' w.heap.size et P (n - 8) cp (fun k => f (8 + k)) ∧ Below w.heap.size w w'
def ReadU (et : Nat) (E : Int) (f : Nat → Int) (n : Nat) (w : World) (e : Ending) (w' : World) : Prop :=
  (E ≠ 0 ∧ e = .returned (.tuple #[.agg udpz, .slice none 0 0, .int .i64 E]) ∧ Below w.heap.size w w') ∨ (E = 0 ∧ ReadUO et f n w e w')
theorem tcpE_0 {S : Int} {f : Nat → Int} {n : Nat} (h : n < 20) : tcpE S f n = 4 := by unfold tcpE; rw [if_pos h]
theorem tcpE_1 {S : Int} {f : Nat → Int} {n : Nat} (n0 : ¬ n < 20) (h : f 12 / 16 < 5) : tcpE S f n = 5 := by unfold tcpE; rw [if_neg n0, if_pos h]
theorem tcpE_2 {S : Int} {f : Nat → Int} {n : Nat} (n0 : ¬ n < 20) (n1 : 5 ≤ f 12 / 16) (h : n < 4 * (f 12 / 16).toNat) : tcpE S f n = 4 := by unfold tcpE; rw [if_neg n0, if_neg (by omega), if_pos h]
theorem tcpE_3 {S : Int} {f : Nat → Int} {n : Nat} (n0 : ¬ n < 20) (n1 : 5 ≤ f 12 / 16) (n2 : ¬ n < 4 * (f 12 / 16).toNat) (h : rgt S f n ≠ 0) : tcpE S f n = 6 := by unfold tcpE; rw [if_neg n0, if_neg (by omega), if_neg n2, if_pos h]
theorem tcpE_4 {S : Int} {f : Nat → Int} {n : Nat} (n0 : ¬ n < 20) (n1 : 5 ≤ f 12 / 16) (n2 : ¬ n < 4 * (f 12 / 16).toNat) (h : rgt S f n = 0) : tcpE S f n = 0 := by unfold tcpE; rw [if_neg n0, if_neg (by omega), if_neg n2, if_neg (fun q => q h)]
theorem udpE_0 {v6 : Bool} {S : Int} {f : Nat → Int} {n : Nat} (h : n < 8) : udpE v6 S f n = 4 := by unfold udpE; rw [if_pos h]
theorem udpE_1 {v6 : Bool} {S : Int} {f : Nat → Int} {n : Nat} (n0 : ¬ n < 8) (h : w2 f 4 ≠ (n : Int)) : udpE v6 S f n = 5 := by unfold udpE; rw [if_neg n0, if_pos h]
theorem udpE_2 {S : Int} {f : Nat → Int} {n : Nat} (n0 : ¬ n < 8) (n1 : w2 f 4 = (n : Int)) (h : w2 f 6 = 0) : udpE true S f n = 6 := by unfold udpE; rw [if_neg n0, if_neg (fun q => q n1), if_pos h, if_pos rfl]
theorem udpE_3 {S : Int} {f : Nat → Int} {n : Nat} (n0 : ¬ n < 8) (n1 : w2 f 4 = (n : Int)) (h : w2 f 6 = 0) : udpE false S f n = 0 := by unfold udpE; rw [if_neg n0, if_neg (fun q => q n1), if_pos h, if_neg (by decide)]
theorem udpE_4 {v6 : Bool} {S : Int} {f : Nat → Int} {n : Nat} (n0 : ¬ n < 8) (n1 : w2 f 4 = (n : Int)) (h : ¬ w2 f 6 = 0) (hr : rgt S f n ≠ 0) : udpE v6 S f n = 6 := by unfold udpE; rw [if_neg n0, if_neg (fun q => q n1), if_neg h, if_pos hr]
theorem udpE_5 {v6 : Bool} {S : Int} {f : Nat → Int} {n : Nat} (n0 : ¬ n < 8) (n1 : w2 f 4 = (n : Int)) (h : ¬ w2 f 6 = 0) (hr : rgt S f n = 0) : udpE v6 S f n = 0 := by unfold udpE; rw [if_neg n0, if_neg (fun q => q n1), if_neg h, if_neg (fun q => q hr)]
/-- A new slice without bytes, and a new header in a variable. -/
def newT (w : World) : Fact := fun v W => ∃ q, v = .pointer (some ⟨q, 0, none⟩) ∧ W.heap[q]? = some (.cells tcpz 61 (0, 0)) ∧ w.heap.size ≤ q
theorem stb_newT (w : World) : Stb (newT w) := fun _ _ _ ⟨q, h, hq, hl⟩ hb => ⟨q, h, (hb.block _ (lt_heap hq)).trans hq, hl⟩
def bldT (w : World) (sp dp sq ak rest fl wi ur : Int) (n : Nat) (g : Nat → Int) : Fact := fun v W => ∃ O co, v = .agg (tcpc sp dp sq ak rest fl wi ur (.slice O n co)) ∧ Own W w.heap.size 5 O n co g
theorem stb_bldT (w : World) (sp dp sq ak rest fl wi ur : Int) (n : Nat) (g : Nat → Int) : Stb (bldT w sp dp sq ak rest fl wi ur n g) := fun _ _ _ ⟨O, co, h, ho⟩ hb => ⟨O, co, h, ho.below hb⟩
end Go.Proofs.Ytlchegibfopglaa
