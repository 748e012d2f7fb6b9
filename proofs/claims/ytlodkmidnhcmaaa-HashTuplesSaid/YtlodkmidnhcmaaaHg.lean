/- Stage 12: what the laws ask of the program's tuples; the document's; words for the law. -/
import Derived.Test.YtlodkmidnhcmaaaHf
import Derived.Test.YtlodkmidnhcmaaaFk
namespace Go.Proofs.Ytlodkmidnhcmaaa
set_option maxRecDepth 100000
open Go.RowKit Go.Shelf
theorem rbytes_any (v6 : Bool) (pr : Int) (s d : Nat → Int) (sp dp : Int) (h1 : 0 ≤ sp ∧ sp ≤ 65535) (h2 : 0 ≤ dp ∧ dp ≤ 65535) (w : World) : Calls Try.prog 16 #[.agg (tupc v6 pr s d sp dp)] w fun e w' => ∃ A c, e = .returned (.slice A (tlen v6) c) ∧ Own w' w.heap.size 5 A (tlen v6) c (tupB v6 pr s d sp dp) ∧ Below w.heap.size w w' := by
  cases v6
  · exact rbytes_false pr s d sp dp h1 h2 w
  · exact rbytes_true pr s d sp dp h1 h2 w
/-- What the program's functions of tuples answer. -/
structure HashT : Prop where
  bytes : ∀ (v6 : Bool) (pr : Int) (s d : Nat → Int) (sp dp : Int), (0 ≤ pr ∧ pr ≤ 255) → Byt s → Byt d → (0 ≤ sp ∧ sp ≤ 65535) → (0 ≤ dp ∧ dp ≤ 65535) → ∀ w : World, Calls Try.prog 15 #[.agg (tupc v6 pr s d sp dp)] w fun e w' => ∃ A c, e = .returned (.slice A (tlen v6) c) ∧ Own w' w.heap.size 5 A (tlen v6) c (tupB v6 pr s d sp dp) ∧ Below w.heap.size w w'
  tuple : ∀ (v6 : Bool) (pr : Int) (s d : Nat → Int) (sp dp : Int), (0 ≤ pr ∧ pr ≤ 255) → Byt s → Byt d → (0 ≤ sp ∧ sp ≤ 65535) → (0 ≤ dp ∧ dp ≤ 65535) → ∀ w : World, Calls Try.prog 17 #[.agg (tupc v6 pr s d sp dp)] w (ret (.int .u64 ((seedN 0 (nb (tupB v6 pr s d sp dp)) (tlen v6) : Nat) : Int)) w)
theorem rtuple_any (v6 : Bool) (pr : Int) (s d : Nat → Int) (sp dp : Int) (hp : 0 ≤ pr ∧ pr ≤ 255) (hs : Byt s) (hd : Byt d) (h1 : 0 ≤ sp ∧ sp ≤ 65535) (h2 : 0 ≤ dp ∧ dp ≤ 65535) (w : World) : Calls Try.prog 18 #[.agg (tupc v6 pr s d sp dp)] w (ret (.int .u64 ((seedN 0 (nb (tupB v6 pr s d sp dp)) (tlen v6) : Nat) : Int)) w) := by
  have HBY := Lib.hid (tupB_byt (v6 := v6) hp hs hd h1 h2)
  have HT := Lib.hid fun W => rbytes_any v6 pr s d sp dp h1 h2 W
  have HL : Hid (tlen v6 ≤ 4611686018427387904) := Lib.hid (by cases v6 <;> decide)
  obtain ⟨n, hn⟩ : ∃ n, n = tlen v6 := ⟨_, rfl⟩
  obtain ⟨f, hf⟩ : ∃ f, f = tupB v6 pr s d sp dp := ⟨_, rfl⟩
  obtain ⟨C, hC⟩ : ∃ C, C = tupc v6 pr s d sp dp := ⟨_, rfl⟩
  have HSZ : Hid (C.size = 36) := Lib.hid (by rw [hC]; rfl)
  rw [← hn, ← hf, ← hC] at HT
  rw [← hn] at HL ⊢
  rw [← hf] at HBY ⊢
  rw [← hC]
  clear hn hf hC
  have H0 : Hid ((w.alloc (.cells C 33)).heap[w.heap.size]? = some (.cells C 33 (0, 0))) := Lib.hid (heap_alloc_new w _)
  have HB0 : Hid (Below w.heap.size w (w.alloc (.cells C 33))) := Lib.hid (below_alloc w _)
  have HI36 : Hid ((Try.prog.info? 33).map (·.size) = some 36) := Lib.hid (by kernel_rfl)
  go_enter Try.func18, Try.ntmps18
  go_upto_region 1 with fail
  change Code.wp _ _ _ _ (w.alloc (.cells C 33))
  obtain ⟨bx, hbx⟩ : ∃ b, b = w.heap.size := ⟨_, rfl⟩
  rw [← hbx] at H0 ⊢
  clear hbx
  generalize w.alloc (.cells C 33) = u1 at *
  go_wp2_with (first
    | (refine wpList_load_row rfl 33 (.tmp 1) rfl bx rfl 33 C (0, 0) _ H0.out Try.underlying33 rfl (HI36.out.trans (by rw [HSZ.out])) ?_)
    | (go_at_call 16
       refine (HT.out _).mono ?_
       rintro e v1 ⟨A, c, rfl, ho, hb1⟩
       have HR1 := Lib.hid (ho.rd)
       have HB1 := Lib.hid (HB0.out.trans (hb1.mono HB0.out.size))
       clear ho hb1)
    | (go_at_call 12
       refine (rseeded_any 0 (by decide) A n c f HBY.out HL.out v1 HR1.out).mono ?_
       rintro e v2 ⟨rfl, hb2⟩
       have HB2 := Lib.hid (HB1.out.trans (hb2.mono HB1.out.size))
       clear hb2 HB1))
  go_ret
  exact ⟨rfl, HB2.out⟩
/-- One entry told anew, that has not come. -/
theorem FrU.swapK {a0 a : Act} {K : List (Nat × Nat)} {V V' : Nat → Value} {l : Array Bool} (h : FrU a0 (kv K V) l a) (i : Nat) (hn : l.getD i true = false) (hV : ∀ k, k ≠ i → V k = V' k) : FrU a0 (kv K V') l a := by
  obtain ⟨h1, h2, h3, h4⟩ := h
  refine ⟨h1, h2, fun x hx hl => ?_, fun s hs => h4 s fun x hx => ?_⟩
  · obtain ⟨y, hy, rfl⟩ := List.mem_map.1 hx
    by_cases e : y.1 = i
    · have hl : l.getD y.1 false = true := hl
      rw [e] at hl
      rw [Array.getD_eq_getD_getElem?] at hl hn
      cases hq : l[i]? with
      | none => rw [hq] at hl; cases hl
      | some b =>
        rw [hq] at hl hn
        have e1 : b = true := hl
        have e2 : b = false := hn
        rw [e1] at e2
        cases e2
    · show a.tmps[y.2]?.getD undef = V' y.1
      rw [← hV y.1 e]
      exact h3 _ (List.mem_map.2 ⟨y, hy, rfl⟩) hl
  · obtain ⟨y, hy, rfl⟩ := List.mem_map.1 hx
    exact hs (y.1, y.2, V' y.1) (List.mem_map.2 ⟨y, hy, rfl⟩)
theorem FrU.allB {a0 a : Act} {K : List (Nat × Nat)} {V : Nat → Value} {BL : List (Nat × Nat × Value)} {l : Array Bool} (h : FrU a0 (kv K V) l a) (hB : kv K V = BL) {n : Nat} (hl : ∀ i, i < n → l.getD i false = true) (hk : (keysB K && K.all fun x => decide (x.1 < n) && decide (x.2 < a0.tmps.size)) = true) : a = { tmps := setAll BL a0.tmps, defers := a0.defers } := by
  subst hB
  exact h.allK hl hk
theorem xor8 (a b : Int) : 0 ≤ bits .xor .u8 a b ∧ bits .xor .u8 a b ≤ 255 := by
  show 0 ≤ IntKind.u8.wrap ((BitVec.ofInt 8 a ^^^ BitVec.ofInt 8 b).toNat : Int) ∧ IntKind.u8.wrap ((BitVec.ofInt 8 a ^^^ BitVec.ofInt 8 b).toNat : Int) ≤ 255
  rw [IntKind.wrap_u8]
  omega
theorem tupc_upd_s (v6 : Bool) (pr : Int) (s d : Nat → Int) (sp dp : Int) (x : Int) {k : Nat} (hk : k < 16) : (tupc v6 pr s d sp dp).setIfInBounds (2 + k) (.int .u8 x) = tupc v6 pr (upd s k x) d sp dp := by
  match k, hk with
  | 0, _ => simp [tupc, upd]
  | 1, _ => simp [tupc, upd]
  | 2, _ => simp [tupc, upd]
  | 3, _ => simp [tupc, upd]
  | 4, _ => simp [tupc, upd]
  | 5, _ => simp [tupc, upd]
  | 6, _ => simp [tupc, upd]
  | 7, _ => simp [tupc, upd]
  | 8, _ => simp [tupc, upd]
  | 9, _ => simp [tupc, upd]
  | 10, _ => simp [tupc, upd]
  | 11, _ => simp [tupc, upd]
  | 12, _ => simp [tupc, upd]
  | 13, _ => simp [tupc, upd]
  | 14, _ => simp [tupc, upd]
  | 15, _ => simp [tupc, upd]
  | k + 16, h => exact absurd h (by omega)
theorem tupc_upd_d (v6 : Bool) (pr : Int) (s d : Nat → Int) (sp dp : Int) (x : Int) {k : Nat} (hk : k < 16) : (tupc v6 pr s d sp dp).setIfInBounds (18 + k) (.int .u8 x) = tupc v6 pr s (upd d k x) sp dp := by
  match k, hk with
  | 0, _ => simp [tupc, upd]
  | 1, _ => simp [tupc, upd]
  | 2, _ => simp [tupc, upd]
  | 3, _ => simp [tupc, upd]
  | 4, _ => simp [tupc, upd]
  | 5, _ => simp [tupc, upd]
  | 6, _ => simp [tupc, upd]
  | 7, _ => simp [tupc, upd]
  | 8, _ => simp [tupc, upd]
  | 9, _ => simp [tupc, upd]
  | 10, _ => simp [tupc, upd]
  | 11, _ => simp [tupc, upd]
  | 12, _ => simp [tupc, upd]
  | 13, _ => simp [tupc, upd]
  | 14, _ => simp [tupc, upd]
  | 15, _ => simp [tupc, upd]
  | k + 16, h => exact absurd h (by omega)
end Go.Proofs.Ytlodkmidnhcmaaa
