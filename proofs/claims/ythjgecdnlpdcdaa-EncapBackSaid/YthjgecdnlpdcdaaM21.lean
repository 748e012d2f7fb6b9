import Derived.Test.YthjgecdnlpdcdaaM15
import Derived.Test.YthjgecdnlpdcdaaM1
import Derived.Test.YthjgecdnlpdcdaaM9
import Derived.Test.YthjgecdnlpdcdaaM11
import Derived.Test.YthjgecdnlpdcdaaM12
import Derived.Test.YthjgecdnlpdcdaaM16
import Derived.Test.YthjgecdnlpdcdaaM17
import Derived.Test.YthjgecdnlpdcdaaM20
import Derived.Laws.CopyRow
import Derived.Test.YthjgecdnlpdcdaaM8
import Derived.Test.YthjgecdnlpdcdaaM5
import Derived.Deep.RegionHeld3
/- The blocks that a walk made, in the order of their making: one fact for all of them, over any program. -/
namespace Go.Proofs.Ythjgecdnlpdcdaa
open Go.RowKit
structure Mem (w W : World) (L : List (Nat × Obj)) : Prop where
  all : ∀ p ∈ L, W.heap[p.1]? = some p.2
  lo : ∀ p ∈ L, w.heap.size ≤ p.1
  inc : L.Pairwise fun a b => a.1 < b.1
  below : Below w.heap.size w W
theorem Mem.nil (w : World) : Mem w w [] := ⟨fun _ h => (nomatch h), fun _ h => (nomatch h), .nil, Below.refl _ _⟩
theorem Mem.get {w W : World} {L : List (Nat × Obj)} (h : Mem w W L) (k : Nat) {g : Nat} {o : Obj} (hk : L[k]? = some (g, o)) : W.heap[g]? = some o := h.all (g, o) (List.mem_of_getElem? hk)
theorem Mem.low {w W : World} {L : List (Nat × Obj)} (h : Mem w W L) (k : Nat) {g : Nat} {o : Obj} (hk : L[k]? = some (g, o)) : w.heap.size ≤ g := h.lo (g, o) (List.mem_of_getElem? hk)
theorem Mem.step {w W W' : World} {L : List (Nat × Obj)} (h : Mem w W L) (hb : Below W.heap.size W W') : Mem w W' L :=
  ⟨fun p hp => (hb.block _ (lt_heap (h.all p hp))).trans (h.all p hp), h.lo, h.inc, h.below.trans (hb.mono h.below.size)⟩
theorem Mem.drew {w W : World} {L : List (Nat × Obj)} (h : Mem w W L) : Mem w W.drew L := ⟨h.all, h.lo, h.inc, h.below.drew⟩
theorem Mem.alloc {w W : World} {L : List (Nat × Obj)} (h : Mem w W L) (o : Obj) : Mem w (W.alloc o) (L ++ [(W.heap.size, o)]) := by
  refine ⟨fun p hp => ?_, fun p hp => ?_, ?_, h.below.alloc h.below.size o⟩
  · rcases List.mem_append.1 hp with q | q
    · exact blk_old (h.all p q) o
    · obtain rfl := List.mem_singleton.1 q
      exact heap_alloc_new W o
  · rcases List.mem_append.1 hp with q | q
    · exact h.lo p q
    · obtain rfl := List.mem_singleton.1 q
      exact h.below.size
  · refine List.pairwise_append.2 ⟨h.inc, List.pairwise_singleton .., fun a ha b hb => ?_⟩
    obtain rfl := List.mem_singleton.1 hb
    exact lt_heap (h.all a ha)
/-- A block that is made and named. -/
theorem Mem.new {w W : World} {L : List (Nat × Obj)} (h : Mem w W L) (o : Obj) (q : Nat) (hq : q = W.heap.size) : Mem w (W.alloc o) (L ++ [(q, o)]) := by
  subst hq
  exact h.alloc o
theorem Mem.turn {w W W' : World} {L : List (Nat × Obj)} (h : Mem w W L) (k : Nat) {g : Nat} {o : Obj} (hk : L[k]? = some (g, o)) (o' : Obj) (hg : W'.heap[g]? = some o') (hw : ∀ j, j ≠ g → W'.heap[j]? = W.heap[j]?) (hb : Below w.heap.size w W') : Mem w W' (L.set k (g, o')) := by
  obtain ⟨hlt, he⟩ := List.getElem?_eq_some_iff.1 hk
  have hp := List.pairwise_iff_getElem.1 h.inc
  have key : ∀ i (hi : i < (L.set k (g, o')).length), W'.heap[(L.set k (g, o'))[i].1]? = some (L.set k (g, o'))[i].2 ∧ w.heap.size ≤ (L.set k (g, o'))[i].1 := fun i hi => by
    have hi' : i < L.length := by simpa using hi
    rw [List.getElem_set]
    by_cases e : k = i
    · subst e
      rw [if_pos rfl]
      exact ⟨hg, h.low k hk⟩
    · rw [if_neg e]
      refine ⟨?_, h.lo _ (List.getElem_mem hi')⟩
      rw [hw _ ?_]
      · exact h.all _ (List.getElem_mem hi')
      · have e2 : L[k].1 = g := by rw [he]
        rcases Nat.lt_or_gt_of_ne e with q | q
        · have := hp k i hlt hi' q
          omega
        · have := hp i k hi' hlt q
          omega
  refine ⟨fun p hp => ?_, fun p hp => ?_, ?_, hb⟩
  · obtain ⟨i, hi, rfl⟩ := List.getElem_of_mem hp
    exact (key i hi).1
  · obtain ⟨i, hi, rfl⟩ := List.getElem_of_mem hp
    exact (key i hi).2
  · refine List.pairwise_iff_getElem.2 fun i j hi hj hij => ?_
    have hi' : i < L.length := by simpa using hi
    have hj' : j < L.length := by simpa using hj
    have e1 : ∀ i (hi : i < (L.set k (g, o')).length) (hi' : i < L.length), (L.set k (g, o'))[i].1 = L[i].1 := fun i hi hi' => by
      rw [List.getElem_set]
      split
      · rename_i e
        subst e
        rw [he]
      · rfl
    rw [e1 i hi hi', e1 j hj hj']
    exact hp i j hi' hj' hij
theorem Mem.row {w W : World} {L : List (Nat × Obj)} (h : Mem w W L) (k : Nat) {g : Nat} {cs : Array Value} {t : TypeId} (hk : L[k]? = some (g, .cells cs t (0, 0))) (new : Array Value) : Mem w (W.setRow g new) (L.set k (g, .cells new t (0, 0))) :=
  h.turn k hk _ (setRow_heap W g _ new _ _ (h.get k hk)) (fun j hj => setRow_other W g j new hj) (below_setRow h.below (h.low k hk) new)
theorem Mem.set {w W : World} {L : List (Nat × Obj)} (h : Mem w W L) (k : Nat) {g : Nat} {cs : Array Value} {t : TypeId} (hk : L[k]? = some (g, .cells cs t (0, 0))) (i : Nat) (v : Value) : Mem w (W.setCell ⟨g, i, none⟩ v) (L.set k (g, .cells (cs.setIfInBounds i v) t (0, 0))) :=
  h.turn k hk _ (blk_set (h.get k hk) i v) (fun j hj => Below.heap_setCell W ⟨g, i, none⟩ v j hj) (h.below.setCell (h.low k hk) v)
theorem Mem.cells {w W : World} {L : List (Nat × Obj)} (h : Mem w W L) (k : Nat) {g : Nat} {cs : Array Value} {t : TypeId} (hk : L[k]? = some (g, .cells cs t (0, 0))) (o : Nat) (vs : List Value) : Mem w (W.setCells g o vs) (L.set k (g, .cells (laid cs o vs) t (0, 0))) :=
  h.turn k hk _ (blk_setCells vs o W cs (h.get k hk)) (fun _j hj => other_setCells hj vs o W) (below_setCells (h.low k hk) vs o W h.below)
/-- Bytes that came in, behind it. -/
theorem Mem.rd {w W : World} {L : List (Nat × Obj)} (h : Mem w W L) {A : Option Addr} {n : Nat} {f : Nat → Int} (hr : Rd w w.heap.size A n f) : Rd W W.heap.size A n f := (hr.keep h.below).more h.below.size
theorem Mem.cell {w W : World} {L : List (Nat × Obj)} (h : Mem w W L) {b o : Nat} (hb : b < w.heap.size) {v : Value} (hc : w.cell? ⟨b, o, none⟩ = some v) : W.cell? ⟨b, o, none⟩ = some v := (h.below.cell (p := ⟨b, o, none⟩) hb).trans hc
/-- .. of the call's own: kept where one of the blocks, of another type, alone is turned. -/
theorem Own.besides {w W W' : World} {L : List (Nat × Obj)} {base : Nat} {e : TypeId} {A : Option Addr} {n c : Nat} {f : Nat → Int} (ho : Own W base e A n c f) (h : Mem w W L) (k : Nat) {g : Nat} {cs : Array Value} {t : TypeId} (hk : L[k]? = some (g, .cells cs t (0, 0))) (hte : t ≠ e) (hw : ∀ j, j ≠ g → W'.heap[j]? = W.heap[j]?) : Own W' base e A n c f :=
  ho.other (h.get k hk) hte hw
theorem Mem.old {w W : World} {L : List (Nat × Obj)} (h : Mem w W L) {g : Nat} {o : Obj} (hg : w.heap[g]? = some o) : W.heap[g]? = some o := (h.below.block _ (lt_heap hg)).trans hg
end Go.Proofs.Ythjgecdnlpdcdaa
/- Layer 7's words: what a frame is as a packet. Nothing of the program. -/
namespace Go.Proofs.Ythjgecdnlpdcdaa
open Go.RowKit
/-- The IP packet: what is wrong with it, its protocol, its ends, how long it is, where what is behind its headers begins. -/
def otE (v6 : Bool) (g : Nat → Int) (m : Nat) : Int := if v6 = true then rd6E g m else rd4E g m
def otP (v6 : Bool) (g : Nat → Int) : Int := if v6 = true then (chn6 g).1 else g 9
def otS (v6 : Bool) (g : Nat → Int) : Nat → Int := if v6 = true then fst16 g 8 16 else adr fun k => g (12 + k)
def otD (v6 : Bool) (g : Nat → Int) : Nat → Int := if v6 = true then fst16 g 24 16 else adr fun k => g (16 + k)
def otI (v6 : Bool) (g : Nat → Int) : Nat := if v6 = true then 40 + ln6 g else tl4 g
def otA (v6 : Bool) (g : Nat → Int) : Nat := if v6 = true then 40 + (chn6 g).2.1 else hl4 g
def otR (v6 : Bool) (g : Nat → Int) : Nat := otI v6 g - otA v6 g
def otF (v6 : Bool) (g : Nat → Int) : Nat → Int := fun k => g (otA v6 g + k)
/-- What is known of an IP packet that was read. -/
theorem ot_ok {v6 : Bool} {g : Nat → Int} (hg : Byt g) {m : Nat} (h : otE v6 g m = 0) : 20 ≤ otA v6 g ∧ otA v6 g ≤ otI v6 g ∧ otI v6 g ≤ m ∧ otA v6 g + otR v6 g = otI v6 g := by
  cases v6
  · obtain ⟨a1, a2, a3, a4, _⟩ := rd4_ok hg (show rd4E g m = 0 from h)
    refine ⟨a1, a3, a4, ?_⟩
    show hl4 g + (tl4 g - hl4 g) = tl4 g
    omega
  · obtain ⟨a1, a2, a3, p, k, a4, a5⟩ := rd6_ok (show rd6E g m = 0 from h)
    have e : (chn6 g).2.1 = k := by rw [a4]
    refine ⟨?_, ?_, ?_, ?_⟩
    · show 20 ≤ 40 + _; omega
    · show 40 + (chn6 g).2.1 ≤ 40 + ln6 g; rw [e]; omega
    · show 40 + ln6 g ≤ m; exact a3
    · show 40 + (chn6 g).2.1 + (40 + ln6 g - (40 + (chn6 g).2.1)) = 40 + ln6 g
      rw [e]
      omega
end Go.Proofs.Ythjgecdnlpdcdaa
/- Layer 8's words: how an IP packet that was written around bytes is read; the bytes' kind. Nothing of the program. -/
namespace Go.Proofs.Ythjgecdnlpdcdaa
open Go.RowKit
/-- The kind of an inner packet. -/
def knd (g : Nat → Int) (n : Nat) : Int := if n = 0 then 0 else if g 0 / 16 = 4 then 4 else if g 0 / 16 = 6 then 41 else 0
theorem knd_or (g : Nat → Int) (n : Nat) : knd g n = 0 ∨ knd g n = 4 ∨ knd g n = 41 := by
  unfold knd
  split
  · exact .inl rfl
  split
  · exact .inr (.inl rfl)
  split
  · exact .inr (.inr rfl)
  · exact .inl rfl
/-- A packet of IPv4 around n bytes, without options. -/
theorem ot4_wr {kd : Int} {s d : Nat → Int} {n : Nat} {g : Nat → Int} {N : Nat} (hk : 0 ≤ kd ∧ kd ≤ 255) (hs : Byt s) (hd : Byt d) (hn : 20 + n ≤ 65535) (hg : Byt g) (hN : 20 + n ≤ N)
    (h : ∀ k, k < 20 → g k = hdr4 0 0 false 64 kd s d 0 (fun _ => 0) (20 + n) k) :
    otE false g N = 0 ∧ otP false g = kd ∧ otA false g = 20 ∧ otI false g = 20 + n ∧ otR false g = n ∧ otS false g = adr s ∧ otD false g = adr d := by
  have hopt : optE (fun _ => 0) 0 = 0 := by
    unfold optE
    rw [if_neg (by omega), optK_end (.inl (Nat.le_refl 0))]
    rfl
  obtain ⟨e0, e1, e2, _, _, _, _, e3, e4, e5, _⟩ := hdr4_read (tos := 0) (id := 0) (df := false) (ttl := 64) (proto := kd) (s := s) (d := d) (on := 0) (o := fun _ => 0) (total := 20 + n) (by omega) (by omega) (by omega) hk hs hd (fun _ => ⟨Int.le_refl 0, (by decide : (0 : Int) ≤ 255)⟩) hopt hn (by omega) hg N hN h
  have a1 : otA false g = 20 := e1
  have a2 : otI false g = 20 + n := e2
  refine ⟨e0, e3, a1, a2, ?_, ?_, ?_⟩
  · unfold otR
    rw [a1, a2]
    omega
  · funext k
    show adr (fun k => g (12 + k)) k = adr s k
    unfold adr
    split
    · rename_i c; exact e4 k c
    · rfl
  · funext k
    show adr (fun k => g (16 + k)) k = adr d k
    unfold adr
    split
    · rename_i c; exact e5 k c
    · rfl
theorem chn_none {kd : Int} (hk : ext6 kd = false) (f : Nat → Int) (N : Nat) : chn f N 8 kd 0 = (kd, 0, 0) := by
  unfold chn
  rw [if_neg (by rw [hk]; decide)]
/-- A packet of IPv6 around n bytes, without a chain. -/
theorem ot6_wr {kd : Int} {s d : Nat → Int} {n : Nat} {g : Nat → Int} {N : Nat} (hk : ext6 kd = false) (hn : n ≤ 65535) (hN : 40 + n ≤ N)
    (h : ∀ k, k < 40 → g k = hdr6 0 0 kd 64 s d (0 + n) k) :
    otE true g N = 0 ∧ otP true g = kd ∧ otA true g = 40 ∧ otI true g = 40 + n ∧ otR true g = n ∧ (∀ k, k < 16 → otS true g k = s k) ∧ ∀ k, k < 16 → otD true g k = d k := by
  obtain ⟨e0, e1, e2, _, _, _, _, e3, e4⟩ := hdr6_read (cls := 0) (lab := 0) (next := kd) (hops := 64) (proto := kd) (s := s) (d := d) (fc := fun _ => 0) (cn := 0) (n := n) (by omega) (by omega) (by omega) (chn_none hk _ _) (g := g) N (by omega) h (fun k hk => absurd hk (by omega))
  have a1 : otA true g = 40 := by
    show 40 + (chn6 g).2.1 = 40
    rw [e2]
    rfl
  have a2 : otI true g = 40 + n := by show 40 + ln6 g = 40 + n; rw [e1]; omega
  refine ⟨?_, ?_, a1, a2, ?_, fun k hk => ?_, fun k hk => ?_⟩
  · exact e0
  · show (chn6 g).1 = kd
    rw [e2]
  · unfold otR
    rw [a1, a2]
    omega
  · show fst16 g 8 16 k = s k
    unfold fst16
    rw [if_pos hk]
    exact e3 k hk
  · show fst16 g 24 16 k = d k
    unfold fst16
    rw [if_pos hk]
    exact e4 k hk
end Go.Proofs.Ythjgecdnlpdcdaa
/- Layer 5: the sum of a segment behind its pseudo header; the closures that read a header's numbers; Ports. -/
namespace Go.Proofs.Ythjgecdnlpdcdaa
set_option maxRecDepth 100000
open Go.RowKit
set_option maxHeartbeats 1000000 in
theorem sumOf_any (v6 : Bool) (s d : Nat → Int) (hs : Byt s) (hd : Byt d) (pr : Int) (h1 : 0 ≤ pr) (h2 : pr ≤ 255) (A : Option Addr) (n c : Nat) (f : Nat → Int) (hf : Byt f) (hn : n ≤ 4611686018427387900) (hcap : n ≤ c) (w : World) (hr : Rd w w.heap.size A n f) :
    Calls Try.prog 22 #[.bool v6, .agg (arr16 s), .agg (arr16 d), .int .u8 pr, .slice A n c] w fun e w' => e = .returned (.int .u16 (rgt (psq v6 s d pr n) f n)) ∧ Below w.heap.size w w' := by
  have hSb := psq_bd v6 hs hd h1 h2 n
  have HP := Lib.hid fun W => pseudo_any v6 s d hs hd pr h1 h2 n (by omega) W
  unfold rgt
  generalize psq v6 s d pr n = S at *
  have HA := Lib.hid fun W hr => add_any S false A n c f hf hn hcap W hSb.1 hSb.2 hr
  have hb := fld_bd (p := (S, false)) hf hSb n
  generalize fld f (S, false) n = q at *
  have HE := Lib.hid fun W => end_any q.1 q.2 W hb.1 hb.2
  have HR := Lib.hid hr
  have HX := Lib.hid (Box2.start w s d)
  clear hs hd hf hr hSb hb
  go_enter Try.func22, Try.ntmps22
  go_upto_region 1 with fail
  change Code.wp _ _ _ _ ((w.alloc (.cells (arr16 s) 22)).alloc (.cells (arr16 d) 22))
  generalize (w.alloc (.cells (arr16 s) 22)).alloc (.cells (arr16 d) 22) = w2 at *
  go_wp2_with (first
    | (refine wpList_load_roww rfl 22 (.tmp 6) rfl w.heap.size rfl 22 (arr16 s) (0, 0) _ HX.out.b0 Try.underlying22 rfl (by kernel_rfl) ?_)
    | (refine wpList_load_roww rfl 22 (.tmp 7) rfl (w.heap.size + 1) rfl 22 (arr16 d) (0, 0) _ HX.out.b1 Try.underlying22 rfl (by kernel_rfl) ?_)
    | (go_at_call 35; refine (HP.out _).mono ?_; rintro e w3 ⟨rfl, hb3⟩; have HB3 : Hid (Below w.heap.size w w3) := HX.out.below.trans (hb3.mono HX.out.below.size); clear hb3)
    | (go_at_call 34; refine (HA.out _ ((HR.out.keep HB3.out).more HB3.out.size)).mono ?_; rintro e w4 ⟨rfl, hb4⟩; have HB4 : Hid (Below w.heap.size w w4) := HB3.out.trans (hb4.mono HB3.out.size); clear hb4)
    | (go_at_call 33; refine (HE.out _).mono ?_; rintro e w5 ⟨rfl, hb5⟩; have HB5 : Hid (Below w.heap.size w w5) := HB4.out.trans (hb5.mono HB4.out.size); clear hb5))
  go_ret
  exact ⟨rfl, HB5.out⟩
end Go.Proofs.Ythjgecdnlpdcdaa
