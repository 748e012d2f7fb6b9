/- Stage 13: the document's Put and Drop, told by what they leave. -/
import Derived.Test.YthbjkchgbjopfaaTe
import Derived.Test.YthbjkchgbjopfaaSg
namespace Go.Proofs.Ythbjkchgbjopfaa
set_option maxRecDepth 100000
open Go.RowKit Go.Shelf
theorem rFoot : FootG RTA := ⟨fun h hk hd => h.keep hk hd, fun h => h.old⟩
theorem rput_ext {w : World} {q : Nat} {s : Tb} {G : Nat → Prop} (hG : RTA w q s G) (hs : s.Ok) (h x : Nat) (hh : h < 18446744073709551616) (hx : x < 4294967296) : Calls Try.prog 11 #[.pointer (some ⟨q, 0, none⟩), .agg #[.int .u64 (h : Int), .int .u32 (x : Int)]] w fun e w' => e = .returned (.tuple #[.int .i64 (s.ptI h : Int), .int .i64 (s.ptE h)]) ∧ ∃ G', RTA w' q (s.pt h x) G' ∧ ExtG G G' w w' := by
  obtain ⟨AF, cF, AM, cM, AE, cE, hX⟩ := id hG
  refine (rputX_any hX hs h x hh hx).mono ?_
  rintro e w' (⟨hf, rfl, hb⟩ | ⟨i, hf, rfl, ha, hk⟩)
  · have e1 : s.pt h x = s := by unfold Tb.pt; rw [hf]
    have e2 : s.ptI h = 0 := by unfold Tb.ptI; rw [hf]
    have e3 : s.ptE h = 9 := by unfold Tb.ptE; rw [hf]
    rw [e1, e2, e3]
    exact ⟨rfl, G, hG.step hb, ExtG.of_below hb⟩
  · have e1 : s.pt h x = s.put (s.st h i) h x := by unfold Tb.pt; rw [hf]
    have e2 : s.ptI h = s.st h i := by unfold Tb.ptI; rw [hf]
    have e3 : s.ptE h = 0 := by unfold Tb.ptE; rw [hf]
    rw [e1, e2, e3]
    exact ⟨rfl, _, ha, fun k hk' => by rcases hk' with r | r; exact .inl (by rw [r]; exact hG.mem); exact .inr r, hk.mono fun k _ e => by rw [e]; exact hG.mem⟩
theorem rdrop_ext {w : World} {q : Nat} {s : Tb} {G : Nat → Prop} (hG : RTA w q s G) (hs : s.Ok) (P : Int) : Calls Try.prog 13 #[.pointer (some ⟨q, 0, none⟩), .int .i64 P] w fun e w' => e = .returned (.int .i64 (s.drE P)) ∧ ∃ G', RTA w' q (s.dr P) G' ∧ ExtG G G' w w' := by
  obtain ⟨AF, cF, AM, cM, AE, cE, hX⟩ := id hG
  cases hf : s.isF P with
  | false =>
    have e1 : s.dr P = s := by unfold Tb.dr; rw [hf]; rfl
    rw [e1]
    refine (rdrop_no hX hs P hf).mono ?_
    rintro e w' ⟨rfl, hb⟩
    exact ⟨rfl, G, hG.step hb, ExtG.of_below hb⟩
  | true =>
    have hf0 := hf
    unfold Tb.isF at hf0
    rw [Bool.and_eq_true, Bool.and_eq_true, decide_eq_true_eq, decide_eq_true_eq] at hf0
    obtain ⟨⟨h0, h1⟩, h2⟩ := hf0
    obtain ⟨k, rfl⟩ := Int.eq_ofNat_of_zero_le h0
    rw [Int.toNat_natCast] at h2
    have e1 : s.dr (k : Int) = s.gone k := by unfold Tb.dr; rw [hf, Int.toNat_natCast]; rfl
    have e2 : s.drE (k : Int) = 0 := by unfold Tb.drE; rw [decide_eq_true h0, decide_eq_true h1, Int.toNat_natCast, h2]; rfl
    rw [e1, e2]
    refine (rdrop_yes hX hs k (by omega) h2).mono ?_
    rintro e w' ⟨rfl, ha, hk⟩
    exact ⟨rfl, _, ha, fun k hk' => by rcases hk' with r | r; exact .inl (by rw [r]; exact hG.mem); exact .inr r, hk.mono fun k _ e => by rw [e]; exact hG.mem⟩
end Go.Proofs.Ythbjkchgbjopfaa
