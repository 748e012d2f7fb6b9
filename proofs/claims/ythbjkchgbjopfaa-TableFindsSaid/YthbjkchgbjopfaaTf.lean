/- Stage 13: the law's find. -/
import Derived.Test.YthbjkchgbjopfaaTx
namespace Go.Proofs.Ythbjkchgbjopfaa
set_option maxRecDepth 100000
open Go.RowKit Go.Shelf
section
variable {PT : World → Nat → Tb → (Nat → Prop) → Prop} {g : Nat}
theorem is_asks (b H X : Nat) (t : TypeId) (b0 : Nat) (T : List Nat) (hb : b < b0) : AsksG 34 #[.pointer (some ⟨b, 0, none⟩)] (fun y => y == X) (fun _ => False) b0 T (fun _ W => W.heap[b]? = some (.cells #[.int .u64 (H : Int), .int .u32 (X : Int)] t (0, 0))) := by
  refine ⟨fun _ _ => rfl, fun _ W W' h hk => (hk.block b (lt_heap h) (by omega)).trans h, fun l x W h hx _ _ => ?_⟩
  have x1 : W.cell? ⟨b, 1, none⟩ = some (.int .u32 (X : Int)) := blk_cell h 1
  have HH := Lib.hid h
  by_cases e : x = X
  · have e1 : ((x : Int) == (X : Int)) = true := by rw [beq_iff_eq]; omega
    have e2 : Hid ((x == X) = true) := Lib.hid (by simpa using e)
    clear h e
    show Calls Try.prog 34 #[.int .u32 (x : Int), .pointer (some ⟨b, 0, none⟩)] W _
    go_enter Try.func34, Try.ntmps34
    go_wp2_with fail
    go_ret
    exact ⟨by rw [e2.out]; rfl, HH.out, Kept.refl _ _⟩
  · have e1 : ((x : Int) == (X : Int)) = false := by rw [beq_eq_false_iff_ne]; omega
    have e2 : Hid ((x == X) = false) := Lib.hid (by simpa using e)
    clear h e
    show Calls Try.prog 34 #[.int .u32 (x : Int), .pointer (some ⟨b, 0, none⟩)] W _
    go_enter Try.func34, Try.ntmps34
    go_wp2_with fail
    go_ret
    exact ⟨by rw [e2.out]; rfl, HH.out, Kept.refl _ _⟩
theorem lfind_any (HP : TabP PT g) {w : World} {p : Nat} {s : Tb} {F : Nat → Prop} (h : PT w p s F) (hs : s.Ok) (H X : Nat) (hH : H < 18446744073709551616) : Calls Try.prog 14 #[.pointer (some ⟨p, 0, none⟩), .agg #[.int .u64 (H : Int), .int .u32 (X : Int)]] w (ret (.tuple (s.fdV H X)) w) := by
  have h1 : Hid (Calls Try.prog 27 #[.pointer (some ⟨p, 0, none⟩), .int .u64 (H : Int), .func (.func 34) #[] #[.pointer (some ⟨w.heap.size, 0, none⟩)]] (w.alloc (.cells #[.int .u64 (H : Int), .int .u32 (X : Int)] 34)) fun e w' => e = .returned (.tuple (s.fdV H X)) ∧ w'.heap[w.heap.size]? = some (.cells #[.int .u64 (H : Int), .int .u32 (X : Int)] 34 (0, 0)) ∧ Kept (fun _ => False) (w.alloc (.cells #[.int .u64 (H : Int), .int .u32 (X : Int)] 34)) w') := Lib.hid (by
    have h2 := HP.foot.keep h (Kept.of_below (below_alloc w (.cells #[.int .u64 (H : Int), .int .u32 (X : Int)] 34)) fun _ => False) fun _ _ q => q
    exact HP.find (R := fun _ => False) h2 hs H hH _ _ _ _ (is_asks w.heap.size H X 34 (w.alloc (.cells #[.int .u64 (H : Int), .int .u32 (X : Int)] 34)).heap.size _ (by simp)) (fun _ e => e.elim) (heap_alloc_new w _))
  have HB : Hid (Below w.heap.size w (w.alloc (.cells #[.int .u64 (H : Int), .int .u32 (X : Int)] 34))) := Lib.hid (below_alloc w _)
  obtain ⟨V, hV⟩ : ∃ V, V = s.fdV H X := ⟨_, rfl⟩
  rw [← hV] at h1 ⊢
  have HV : Hid (V.size = 2) := Lib.hid (by rw [hV]; unfold Tb.fdV; split <;> rfl)
  obtain ⟨v0, v1, hv⟩ : ∃ v0 v1, V = #[v0, v1] := by
    rw [hV]
    unfold Tb.fdV
    split
    · exact ⟨_, _, rfl⟩
    · exact ⟨_, _, rfl⟩
  rw [hv] at h1 ⊢
  clear hV HV hv HP h hs
  go_enter Try.func14, Try.ntmps14
  go_wp2_with (first
    | (go_at_call 27
       refine h1.out.mono ?_
       rintro e v1 ⟨rfl, _, hk⟩
       have HB1 := Lib.hid (HB.out.trans ((hk.below (Nat.le_refl _) fun _ e => e.elim).mono HB.out.size))
       clear hk))
  go_ret2
  exact ⟨rfl, HB1.out⟩
end
end Go.Proofs.Ythbjkchgbjopfaa
