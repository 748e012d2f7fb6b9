/- Stage 9: an arena, whoever's: what holds of it, and what its calls do; the document's is one. -/
import Derived.Test.YthljpfmonienlaaRf
import Derived.Test.YthljpfmonienlaaRe
namespace Go.Proofs.Ythljpfmonienlaa
set_option maxRecDepth 100000
open Go.RowKit
namespace Ar
/-- Behind Take; the handle and the error that are told. -/
def tk (s : Ar) : Ar := match s.which with
  | none => s
  | some i => s.taken i
def tkH (s : Ar) : Array Value := match s.which with
  | none => #[.int .i64 0, .int .u64 0]
  | some i => #[.int .i64 (i : Int), .int .u64 ((s.serial : Int) + 1)]
def tkE (s : Ar) : Int := match s.which with
  | none => 9
  | some _ => 0
/-- Behind Free; the error that is told. -/
def fr (s : Ar) (i : Int) (k : Nat) : Ar := if s.live i k = true then s.gone i.toNat else s
def frE (s : Ar) (i : Int) (k : Nat) : Int := if s.live i k = true then 0 else 14
theorem ok_tk {s : Ar} (hs : s.Ok) : s.tk.Ok := by
  unfold tk
  split
  · exact hs
  · rename_i i h
    exact ok_taken hs h
theorem tk_len (s : Ar) : s.tk.has.length = s.has.length := by
  unfold tk
  split
  · rfl
  · exact List.length_set
theorem tk_serial (s : Ar) : s.tk.serial ≤ s.serial + 1 := by
  unfold tk
  split
  · omega
  · exact Nat.le_refl _
theorem ok_fr {s : Ar} (hs : s.Ok) (i : Int) (k : Nat) : (s.fr i k).Ok := by
  unfold fr
  split
  · rename_i h
    obtain ⟨_, h1, h2⟩ := live_iff.1 h
    exact ok_gone hs (by rw [h2]; exact h1)
  · exact hs
theorem fr_len (s : Ar) (i : Int) (k : Nat) : (s.fr i k).has.length = s.has.length := by
  unfold fr
  split
  · exact List.length_set
  · rfl
theorem fr_serial (s : Ar) (i : Int) (k : Nat) : (s.fr i k).serial = s.serial := by
  unfold fr
  split <;> rfl
end Ar
/-- A footprint that has grown by new blocks alone; nothing old was turned but it. -/
structure Ext (F F' : Nat → Prop) (w w' : World) : Prop where
  sub : ∀ k, F' k → F k ∨ w.heap.size ≤ k ∧ k < w'.heap.size
  kept : Kept F w w'
/-- An arena, whoever's: PA w p s F: at p stands what is s, in the blocks of F. -/
structure ArC (PA : World → Nat → Ar → (Nat → Prop) → Prop) (take free copy : FuncId) : Prop where
  keep : ∀ {w w' : World} {p : Nat} {s : Ar} {F R : Nat → Prop}, PA w p s F → Kept R w w' → (∀ k, F k → ¬ R k) → PA w' p s F
  old : ∀ {w : World} {p : Nat} {s : Ar} {F : Nat → Prop}, PA w p s F → ∀ k, F k → k < w.heap.size
  take : ∀ {w : World} {p : Nat} {s : Ar} {F : Nat → Prop}, PA w p s F → s.Ok → s.has.length ≤ 65536 → s.serial ≤ 4611686018427387904 →
    Calls Try.prog take #[.pointer (some ⟨p, 0, none⟩)] w fun e w' => e = .returned (.tuple #[.agg s.tkH, .int .i64 s.tkE]) ∧ ∃ F', PA w' p s.tk F' ∧ Ext F F' w w'
  free : ∀ {w : World} {p : Nat} {s : Ar} {F : Nat → Prop}, PA w p s F → s.Ok → s.has.length ≤ 65536 → ∀ (i : Int) (k : Nat),
    Calls Try.prog free #[.pointer (some ⟨p, 0, none⟩), .agg #[.int .i64 i, .int .u64 (k : Int)]] w fun e w' => e = .returned (.int .i64 (s.frE i k)) ∧ ∃ F', PA w' p (s.fr i k) F' ∧ Ext F F' w w'
  copy : ∀ {w : World} {p : Nat} {s : Ar} {F : Nat → Prop}, PA w p s F → s.Ok → s.has.length ≤ 65536 →
    Calls Try.prog copy #[.pointer (some ⟨p, 0, none⟩)] w fun e w' => ∃ b F', e = .returned (.pointer (some ⟨b, 0, none⟩)) ∧ PA w' b s F' ∧ (∀ k, F' k → F k ∨ w.heap.size ≤ k ∧ k < w'.heap.size) ∧ Below w.heap.size w w'
theorem Ext.of_below {F : Nat → Prop} {w w' : World} (h : Below w.heap.size w w') : Ext F F w w' := ⟨fun _ h => .inl h, Kept.of_below h _⟩
/-- The document's is one. -/
theorem rArC : ArC RA 10 12 15 := by
  refine ⟨fun h hk hd => h.keep hk hd, fun h => h.old, ?_, ?_, ?_⟩
  · intro w q s G h hs hn hS
    refine (rtake_any hs h hn hS).mono ?_
    have hq : G q := by
      obtain ⟨A, c, B, d, hx⟩ := h
      exact hx.mem
    rintro e w' (⟨hw, rfl, hb⟩ | ⟨i, hw, rfl, ha, hk⟩)
    · have e1 : s.tk = s := by unfold Ar.tk; rw [hw]
      have e2 : s.tkH = #[.int .i64 0, .int .u64 0] := by unfold Ar.tkH; rw [hw]
      have e3 : s.tkE = 9 := by unfold Ar.tkE; rw [hw]
      rw [e1, e2, e3]
      exact ⟨rfl, G, h.keep (Kept.of_below hb fun _ => False) fun _ _ q => q, Ext.of_below hb⟩
    · have e1 : s.tk = s.taken i := by unfold Ar.tk; rw [hw]
      have e2 : s.tkH = #[.int .i64 (i : Int), .int .u64 ((s.serial : Int) + 1)] := by unfold Ar.tkH; rw [hw]
      have e3 : s.tkE = 0 := by unfold Ar.tkE; rw [hw]
      rw [e1, e2, e3]
      exact ⟨rfl, _, ha, fun _ h => h, hk.mono fun k _ e => by rw [e]; exact hq⟩
  · intro w q s G h hs hn i k
    refine (rfree_any hs h hn i k).mono ?_
    have hq : G q := by
      obtain ⟨A, c, B, d, hx⟩ := h
      exact hx.mem
    rintro e w' (⟨hl, rfl, hb⟩ | ⟨hl, rfl, ha, hk⟩)
    · have e1 : s.fr i k = s := by unfold Ar.fr; rw [hl]; rfl
      have e2 : s.frE i k = 14 := by unfold Ar.frE; rw [hl]; rfl
      rw [e1, e2]
      exact ⟨rfl, G, h.keep (Kept.of_below hb fun _ => False) fun _ _ q => q, Ext.of_below hb⟩
    · have e1 : s.fr i k = s.gone i.toNat := by unfold Ar.fr; rw [if_pos hl]
      have e2 : s.frE i k = 0 := by unfold Ar.frE; rw [if_pos hl]
      rw [e1, e2]
      exact ⟨rfl, _, ha, fun _ h => h, hk.mono fun k _ e => by rw [e]; exact hq⟩
  · intro w q s G h hs hn
    refine (rcopy_any h).mono ?_
    rintro e w' ⟨b, rfl, hl, ha, hb⟩
    exact ⟨b, _, rfl, ha, fun k hk => hk.imp id fun e => ⟨by rw [e]; exact hl, ha.old k (.inr e)⟩, hb⟩
end Go.Proofs.Ythljpfmonienlaa
