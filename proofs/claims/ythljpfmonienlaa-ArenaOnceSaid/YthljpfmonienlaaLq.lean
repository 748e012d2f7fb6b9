/- Stage 9: what ArenaOnce keeps: the handles told so far, and those of them that are gone. -/
import Derived.Test.YthljpfmonienlaaLi
import Derived.Test.YthljpfmonienlaaAMap
import Derived.Test.YthljpfmonienlaaArHist
namespace Go.Proofs.Ythljpfmonienlaa
set_option maxRecDepth 100000
open Go.RowKit Go.Shelf
def kvH (x : Nat × Nat) : Value := .agg #[.int .i64 (x.1 : Int), .int .u64 (x.2 : Int)]
def kvI (i : Nat) : Value := .int .i64 (i : Int)
theorem keyH : KeyT Try.prog 32 kvH := by
  refine keyT_struct (fs := Try.prog.fieldsOf 32) (by kernel_rfl) (fun a => ⟨_, rfl⟩) (fun a b W => ?_) (fun e a W => by unfold kvH; kernel_rfl) (fun a => by unfold kvH; simp [Instr.sameBits])
  have h : (Op.equal 32 (kvH a) (kvH b)).run Try.prog W = _ := eqH (a.1 : Int) (a.2 : Int) (b.1 : Int) (b.2 : Int) W
  rw [h]
  congr 1
  rw [Bool.eq_iff_iff, Bool.and_eq_true, beq_iff_eq, beq_iff_eq, decide_eq_true_iff]
  constructor
  · rintro ⟨h1, h2⟩
    exact Prod.ext (by omega) (by omega)
  · rintro rfl
    exact ⟨rfl, rfl⟩
theorem keyI : KeyT Try.prog 3 kvI := keyT_int Try.underlying3 (fun i : Nat => (i : Int)) fun a b h => by omega
theorem zeroB (w : World) : (zeroValue 4).run Try.prog w = .ok (.bool false) w := by kernel_rfl
/-- What stands at a key of a map of flags. -/
def aget (a : Nat) (L : List (Nat × Value)) : Value := match afind a L with
  | some v => v
  | none => .bool false
theorem look_set {w : World} {b : Nat} {G : List (Nat × Nat)} (h : AMap w b kvH (asetL G)) (x : Nat × Nat) : (Instr.lookup 46 (.map (some b)) (.agg #[.int .i64 (x.1 : Int), .int .u64 (x.2 : Int)]) false).run Try.prog w = .ok (.bool (decide (x ∈ G))) w := by
  have q := h.look Try.underlying46 keyH zeroB x false
  rw [asetL_find] at q
  by_cases e : x ∈ G
  · rw [if_pos e] at q
    rw [decide_eq_true e]
    exact q
  · rw [if_neg e] at q
    rw [decide_eq_false e]
    exact q
theorem look_at {w : World} {b : Nat} {L : List (Nat × Value)} (h : AMap w b kvI L) (i : Nat) : (Instr.lookup 48 (.map (some b)) (.int .i64 (i : Int)) false).run Try.prog w = .ok (aget i L) w := by
  have q := h.look Try.underlying48 keyI zeroB i false
  unfold aget
  cases e : afind i L with
  | none =>
    rw [e] at q
    exact q
  | some v =>
    rw [e] at q
    exact q
theorem aget_put (i j : Nat) (v : Value) (L : List (Nat × Value)) : aget i (aput j v L) = if i = j then v else aget i L := by
  unfold aget
  rw [afind_put]
  by_cases e : i = j
  · rw [if_pos e, if_pos e]
  · rw [if_neg e, if_neg e]
/-- Put into a set. -/
theorem put_set {w : World} {b : Nat} {G : List (Nat × Nat)} (h : AMap w b kvH (asetL G)) (x : Nat × Nat) :
    ∃ w', (Instr.mapUpdate 46 (.map (some b)) (.agg #[.int .i64 (x.1 : Int), .int .u64 (x.2 : Int)]) (.bool true)).run Try.prog w = .ok () w' ∧ AMap w' b kvH (asetL (if x ∈ G then G else G ++ [x])) ∧ Kept (fun k => k = b) w w' := by
  obtain ⟨w', h1, h2, h3⟩ := h.put Try.underlying46 keyH x (.bool true)
  refine ⟨w', h1, ?_, Kept.grownBy h3 fun k e => by injection e with e; exact e.symm⟩
  by_cases e : x ∈ G
  · rw [if_pos e]
    rwa [asetL_again x G e] at h2
  · rw [if_neg e]
    rwa [asetL_put x G e] at h2
theorem put_at {w : World} {b : Nat} {L : List (Nat × Value)} (h : AMap w b kvI L) (i : Nat) (v : Value) :
    ∃ w', (Instr.mapUpdate 48 (.map (some b)) (.int .i64 (i : Int)) v).run Try.prog w = .ok () w' ∧ AMap w' b kvI (aput i v L) ∧ Kept (fun k => k = b) w w' := by
  obtain ⟨w', h1, h2, h3⟩ := h.put Try.underlying48 keyI i v
  exact ⟨w', h1, h2, Kept.grownBy h3 fun k e => by injection e with e; exact e.symm⟩
/-- Those that are gone, of those that were told. -/
structure GoneL (s : Ar) (hs G : List (Nat × Nat)) : Prop where
  mem : ∀ x, x ∈ G ↔ x ∈ hs ∧ s.live (x.1 : Int) x.2 = false
  nodup : G.Nodup
theorem Ar.Hist.nodup' {s : Ar} {hs : List (Nat × Nat)} (h : Ar.Hist s hs) : hs.Nodup := by
  have := h.nodup
  rw [List.Nodup, List.pairwise_map] at this
  exact this.imp fun hab e => hab (by rw [e])
theorem GoneL.count {s : Ar} {hs G : List (Nat × Nat)} (h : GoneL s hs G) (hh : Ar.Hist s hs) : G.length + s.count = hs.length := by
  have h1 : G.length ≤ (hs.filter fun x => !s.live (x.1 : Int) x.2).length := h.nodup.length_le_of_subset fun x hx => by
    obtain ⟨q1, q2⟩ := (h.mem x).1 hx
    rw [List.mem_filter]
    exact ⟨q1, by simp [q2]⟩
  have h2 : (hs.filter fun x => !s.live (x.1 : Int) x.2).length ≤ G.length := List.Nodup.length_le_of_subset (hh.nodup'.filter _) fun x hx => by
    rw [List.mem_filter] at hx
    exact (h.mem x).2 ⟨hx.1, by simpa using hx.2⟩
  have h3 := hh.num
  rw [← List.countP_eq_length_filter] at h1 h2
  have h4 := List.length_eq_countP_add_countP (fun x : Nat × Nat => s.live (x.1 : Int) x.2) (l := hs)
  have h5 : List.countP (fun a => decide ¬(s.live (a.1 : Int) a.2) = true) hs = List.countP (fun x => !s.live (x.1 : Int) x.2) hs := by
    apply List.countP_congr
    intro x _
    simp
  omega
theorem GoneL.taken {s : Ar} (hs0 : s.Ok) {hs G : List (Nat × Nat)} (h : GoneL s hs G) (hh : Ar.Hist s hs) {i : Nat} (hw : s.which = some i) : GoneL (s.taken i) (hs ++ [(i, s.serial + 1)]) G := by
  refine ⟨fun x => ?_, h.nodup⟩
  rw [h.mem, List.mem_append]
  constructor
  · rintro ⟨h1, h2⟩
    exact ⟨.inl h1, by rw [Ar.live_taken hs0 hw _ _ (hh.mem_le h1).2]; exact h2⟩
  · rintro ⟨h1 | h1, h2⟩
    · exact ⟨h1, by rw [Ar.live_taken hs0 hw _ _ (hh.mem_le h1).2] at h2; exact h2⟩
    · exfalso
      rw [List.mem_singleton.1 h1] at h2
      rw [Ar.live_new hs0 hw] at h2
      cases h2
theorem GoneL.gone {s : Ar} (hs0 : s.Ok) {hs G : List (Nat × Nat)} (h : GoneL s hs G) {x : Nat × Nat} (hx : x ∈ hs) (hl : s.live (x.1 : Int) x.2 = true) (hh : Ar.Hist s hs) : GoneL (s.gone x.1) hs (G ++ [x]) := by
  obtain ⟨_, h0, hk⟩ := Ar.live_iff.1 hl
  rw [Int.toNat_natCast] at hk
  have hne : s.at_ x.1 ≠ 0 := by omega
  have hxG : ¬ x ∈ G := fun q => by
    have := ((h.mem x).1 q).2
    rw [hl] at this
    cases this
  have key : ∀ y, y ∈ hs → (s.gone x.1).live (y.1 : Int) y.2 = (s.live (y.1 : Int) y.2 && !decide (y = x)) := fun y hy => by
    rw [Ar.live_gone hs0 hne, hk]
    congr 1
    by_cases e : y = x
    · rw [e]; simp
    · have : y.2 ≠ x.2 := fun q => e (by
        obtain ⟨a, ha, rfl⟩ := List.mem_iff_getElem.1 hy
        obtain ⟨b, hb, rfl⟩ := List.mem_iff_getElem.1 hx
        have h1 := hh.ser a _ (List.getElem?_eq_getElem ha)
        have h2 := hh.ser b _ (List.getElem?_eq_getElem hb)
        have : a = b := by omega
        subst this
        rfl)
      simp [e, this]
  refine ⟨fun y => ?_, ?_⟩
  · rw [List.mem_append, h.mem, List.mem_singleton]
    constructor
    · rintro (⟨h1, h2⟩ | rfl)
      · exact ⟨h1, by rw [key y h1, h2]; rfl⟩
      · exact ⟨hx, by rw [key y hx]; simp⟩
    · rintro ⟨h1, h2⟩
      rw [key y h1] at h2
      by_cases e : y = x
      · exact .inr e
      · exact .inl ⟨h1, by simpa [e] using h2⟩
  · rw [List.nodup_append]
    exact ⟨h.nodup, by simp, fun a ha b hb e => hxG (by rw [← List.mem_singleton.1 hb, ← e]; exact ha)⟩
/-- The blocks that the arena does not turn. -/
def OnX (bg : Nat) (hs : List (Nat × Nat)) (A : Option Addr) (k : Nat) : Prop := k = bg ∨ 0 < hs.length ∧ A = some ⟨k, 0, none⟩
theorem St.turn {PP : World → Nat → Ar → (Nat → Prop) → Prop} {ft ff fc : FuncId} {w W W' : World} {X X' R : Nat → Prop} {p : Nat} {s : Ar} (h : St PP w X W p s) (HC : ArC PP ft ff fc) (hk : Kept R W W') (hR : ∀ k, k < W.heap.size → R k → X k) (hX' : ∀ k, X' k → k < W'.heap.size ∧ (X k ∨ W.heap.size ≤ k)) (hb : Below w.heap.size w W') : St PP w X' W' p s := by
  obtain ⟨F, hF, h1, h2, h3⟩ := h
  refine ⟨F, HC.keep hF (hk.mono (R' := fun k => R k ∧ k < W.heap.size) fun k hlt hr => ⟨hr, hlt⟩) (fun k f r => (h1 k f).2 (hR k r.2 r.1)), fun k f => ⟨(h1 k f).1, fun x => ?_⟩, fun k x => (hX' k x).1, hb⟩
  rcases (hX' k x).2 with q | q
  · exact (h1 k f).2 q
  · have := HC.old hF k f
    omega
/-- What stands in memory. -/
structure OnM (w W : World) (p bg : Nat) (A : Option Addr) (c : Nat) (s : Ar) (hs G : List (Nat × Nat)) : Prop where
  st : St PA w (OnX bg hs A) W p s
  own : OwnC W w.heap.size 32 2 A hs.length c (tcell hs)
  mp : AMap W bg kvH (asetL G)
  low : w.heap.size ≤ bg
  nil : hs.length = 0 → A = none
theorem OnM.below {w W : World} {p bg : Nat} {A : Option Addr} {c : Nat} {s : Ar} {hs G : List (Nat × Nat)} (h : OnM w W p bg A c s hs G) : Below w.heap.size w W := by
  obtain ⟨F, hF, h1, h2, h3⟩ := h.st
  exact h3
theorem OwnC.blockAny {w w' : World} {base size : Nat} {e : TypeId} {A : Option Addr} {n c : Nat} {f : Nat → Value} (h : OwnC w base e size A n c f) (hw : ∀ g, 0 < n → A = some ⟨g, 0, none⟩ → w'.heap[g]? = w.heap[g]?) (h0 : n = 0 → A = none) : OwnC w' base e size A n c f := by
  rcases Nat.eq_zero_or_pos n with q | q
  · refine ⟨h.1, ?_⟩
    rcases h.2 with hh | ⟨g', cap, cur, hv, r⟩
    · exact .inl hh
    · exfalso
      rw [h0 q] at hv
      cases hv
  · obtain ⟨g, e, _⟩ := h.lies q
    subst e
    exact h.block (hw g q rfl)
/-- Behind what turns none of these. -/
theorem OnM.keep {w W W' : World} {p bg : Nat} {A : Option Addr} {c : Nat} {s : Ar} {hs G : List (Nat × Nat)} (h : OnM w W p bg A c s hs G) {R : Nat → Prop} (hk : Kept R W W') (hR : ∀ k, R k → W.heap.size ≤ k) : OnM w W' p bg A c s hs G := by
  have hb := hk.below (Nat.le_refl _) hR
  have hl := h.below
  refine ⟨h.st.turn pArC hk (fun k h1 h2 => absurd (hR k h2) (by omega)) (fun k hx => ⟨?_, .inl hx⟩) (hl.trans (hb.mono hl.size)), h.own.blockAny (fun g hn hA => ?_) h.nil, h.mp.step hb, h.low, h.nil⟩
  · obtain ⟨F, hF, h1, h2, h3⟩ := h.st
    exact Nat.lt_of_lt_of_le (h2 k hx) hb.size
  · obtain ⟨g', e, _, hlt, _⟩ := h.own.lies hn
    rw [hA] at e
    injection e with e
    injection e with e
    subst e
    exact hb.block _ hlt
theorem OnM.step {w W W' : World} {p bg : Nat} {A : Option Addr} {c : Nat} {s : Ar} {hs G : List (Nat × Nat)} (h : OnM w W p bg A c s hs G) (hb : Below W.heap.size W W') : OnM w W' p bg A c s hs G :=
  h.keep (Kept.of_below hb fun _ => False) (fun _ q => q.elim)
theorem ownBlock_some {A : Option Addr} {n c k : Nat} (h : Value.ownBlock (.slice A n c) = some k) : ∃ a, A = some a ∧ a.block = k := by
  cases A with
  | none => cases h
  | some a => exact ⟨a, rfl, by simpa [Value.ownBlock] using h⟩
theorem OnM.own_at {w W : World} {p bg : Nat} {A : Option Addr} {c : Nat} {s : Ar} {hs G : List (Nat × Nat)} (h : OnM w W p bg A c s hs G) {k : Nat} (hk : Value.ownBlock (.slice A hs.length c) = some k) : 0 < hs.length ∧ A = some ⟨k, 0, none⟩ := by
  obtain ⟨a, rfl, rfl⟩ := ownBlock_some hk
  have hn : 0 < hs.length := by
    rcases Nat.eq_zero_or_pos hs.length with q | q
    · have := h.nil q
      cases this
    · exact q
  obtain ⟨g, e, _⟩ := h.own.lies hn
  injection e with e
  subst e
  exact ⟨hn, rfl⟩
theorem OnM.ne {w W : World} {p bg : Nat} {A : Option Addr} {c : Nat} {s : Ar} {hs G : List (Nat × Nat)} (h : OnM w W p bg A c s hs G) {g : Nat} (hn : 0 < hs.length) (hA : A = some ⟨g, 0, none⟩) : g ≠ bg := by
  obtain ⟨g', e, _, _, hc, _⟩ := h.own.lies hn
  rw [hA] at e
  injection e with e
  injection e with e
  subst e
  rintro rfl
  obtain ⟨es, clock, hb, _⟩ := h.mp
  have := hc 0 (by omega)
  simp [World.cell?, hb] at this
/-- One more was told. -/
theorem OnM.appended {w W u : World} {p bg : Nat} {A A2 : Option Addr} {c c2 : Nat} {s : Ar} {hs G : List (Nat × Nat)} (h : OnM w W p bg A c s hs G) (x : Nat × Nat) (ho : OwnC u w.heap.size 32 2 A2 (hs.length + 1) c2 (tcell (hs ++ [x]))) (hg : W.grownBy u (Value.ownBlock (.slice A hs.length c)))
    (h3 : Value.ownBlock (.slice A2 (hs.length + 1) c2) = Value.ownBlock (.slice A hs.length c) ∨ Value.ownBlock (.slice A2 (hs.length + 1) c2) = some W.heap.size) : OnM w u p bg A2 c2 s (hs ++ [x]) G := by
  have hl : (hs ++ [x]).length = hs.length + 1 := by simp
  have hb := h.below
  have hk : Kept (fun k => Value.ownBlock (.slice A hs.length c) = some k) W u := Kept.grownBy hg fun k e => e
  have hbu : Below w.heap.size w u := hb.trans (hk.below hb.size fun k e => h.own.at_ k e)
  obtain ⟨g2, e2, _, hlt2, _⟩ := ho.lies (by omega)
  refine ⟨h.st.turn pArC hk (fun k _ e => .inr (h.own_at e)) (fun k hx => ?_) hbu, by rw [hl]; exact ho, h.mp.block (hg.block bg h.mp.lt fun e => ?_), h.low, fun q => by omega⟩
  · rcases hx with rfl | ⟨_, hx⟩
    · exact ⟨Nat.lt_of_lt_of_le h.mp.lt hg.size, .inl (.inl rfl)⟩
    · rw [hx] at e2
      injection e2 with e2
      injection e2 with e2
      subst e2
      refine ⟨hlt2, ?_⟩
      rw [hx] at h3
      rcases h3 with h3 | h3
      · exact .inl (.inr (h.own_at (by rw [← h3]; rfl)))
      · have h3' : some k = some W.heap.size := h3
        injection h3' with h3'
        exact .inr (by omega)
  · obtain ⟨hn, hA⟩ := h.own_at e.symm
    exact h.ne hn hA rfl
/-- One more is gone. -/
theorem OnM.putted {w W u : World} {p bg : Nat} {A : Option Addr} {c : Nat} {s : Ar} {hs G G' : List (Nat × Nat)} (h : OnM w W p bg A c s hs G) (hk : Kept (fun k => k = bg) W u) (hm : AMap u bg kvH (asetL G')) : OnM w u p bg A c s hs G' := by
  have hb := h.below
  have hbu : Below w.heap.size w u := hb.trans (hk.below hb.size fun k e => by rw [e]; exact h.low)
  refine ⟨h.st.turn pArC hk (fun k _ e => .inl e) (fun k hx => ⟨?_, .inl hx⟩) hbu, h.own.blockAny (fun g hn hA => ?_) h.nil, hm, h.low, h.nil⟩
  · obtain ⟨F, hF, h1, h2, h3⟩ := h.st
    exact Nat.lt_of_lt_of_le (h2 k hx) hk.size
  · obtain ⟨g', e, _, hlt, _⟩ := h.own.lies hn
    have hne := h.ne hn hA
    rw [hA] at e
    injection e with e
    injection e with e
    subst e
    exact hk.block _ hlt hne
end Go.Proofs.Ythljpfmonienlaa
