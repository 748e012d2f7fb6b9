import Derived.Test.YtkmakdhlaenaoaaGm10
/- Stage 9: the document's Copy and Take. -/
namespace Go.Proofs.Ytkmakdhlaenaoaa
set_option maxRecDepth 100000
open Go.RowKit
set_option maxHeartbeats 1000000 in
theorem rcopyX_any {w : World} {q : Nat} {A : Option Addr} {n c : Nat} {B : Option Addr} {m d S : Nat} {ha fr : Nat → Nat} {G : Nat → Prop} (h : RX w q A n c B m d S ha fr G) :
    Calls Try.prog 53 #[.pointer (some ⟨q, 0, none⟩)] w fun e w' => ∃ b, e = .returned (.pointer (some ⟨b, 0, none⟩)) ∧ w.heap.size ≤ b ∧ RX w' b A n c B m d S ha fr (fun k => G k ∨ k = b) ∧ Below w.heap.size w w' := by
  have HX := Lib.hid h
  have HX0 : Hid (w.cell? ⟨q, 0, none⟩ = some (.slice A n c)) := Lib.hid (blk_cell h.blk 0)
  have HX1 : Hid (w.cell? ⟨q, 1, none⟩ = some (.slice B m d)) := Lib.hid (blk_cell h.blk 1)
  have HX2 : Hid (w.cell? ⟨q, 2, none⟩ = some (.int .u64 (S : Int))) := Lib.hid (blk_cell h.blk 2)
  have HQL := Lib.hid (lt_heap h.blk)
  have hbd : ∀ w, (Instr.build 105 #[(0, .slice A n c), (1, .slice B m d), (2, .int .u64 (S : Int))]).run Try.prog w = .ok (.agg #[.slice A n c, .slice B m d, .int .u64 (S : Int)]) w := fun w => by kernel_rfl
  clear h
  go_enter Try.func53, Try.ntmps53
  go_upto_region 1 with fail
  refine wp_region_grow (C := fun W => Below w.heap.size w W) 15 17 [val (.pointer (some ⟨q, 0, none⟩)), val (.pointer (some ⟨q, 0, none⟩)), val (.pointer (some ⟨q, 0, none⟩)), val (.slice A n c), val (.pointer (some ⟨q, 0, none⟩)), val (.pointer (some ⟨q, 0, none⟩)), val (.pointer (some ⟨q, 1, none⟩)), val (.slice B m d), val (.pointer (some ⟨q, 0, none⟩)), val (.pointer (some ⟨q, 0, none⟩)), val (.pointer (some ⟨q, 2, none⟩)), val (.int .u64 (S : Int)), val (.agg #[.slice A n c, .slice B m d, .int .u64 (S : Int)]), (fun v W => ∃ b, v = .pointer (some ⟨b, 0, none⟩) ∧ w.heap.size ≤ b ∧ W.heap[b]? = some (.cells #[.slice A n c, .slice B m d, .int .u64 (S : Int)] 105 (0, 0))), (fun v W => ∃ b, v = .pointer (some ⟨b, 0, none⟩) ∧ w.heap.size ≤ b ∧ W.heap[b]? = some (.cells #[.slice A n c, .slice B m d, .int .u64 (S : Int)] 105 (0, 0)))] (by kernel_rfl) rfl (by kernel_rfl) rfl ⟨stb_val _, stb_val _, stb_val _, stb_val _, stb_val _, stb_val _, stb_val _, stb_val _, stb_val _, stb_val _, stb_val _, stb_val _, stb_val _, (fun _ _ _ ⟨b, h, hl, ho⟩ hb => ⟨b, h, hl, (hb.block _ (lt_heap ho)).trans ho⟩), (fun _ _ _ ⟨b, h, hl, ho⟩ hb => ⟨b, h, hl, (hb.block _ (lt_heap ho)).trans ho⟩), trivial⟩ (Below.refl _ _).drew ?_ ?_
  · refine each_cons ?_ ?_
    · intro a W hW hd
      have h0 : a.tmps[0]?.getD undef = .pointer (some ⟨q, 0, none⟩) := slot_eq (hd 0 (by decide))
      exact grows_value _ hW (by simp [execOp, Act.eval, h0]) rfl
    refine each_cons ?_ ?_
    · intro a W hW hd
      have h3 : a.tmps[3]?.getD undef = .pointer (some ⟨q, 0, none⟩) := slot_eq (hd 3 (by decide))
      refine grows_value _ hW (?_ : _ = _) rfl
      clear hd
      go_simp
    refine each_cons ?_ ?_
    · intro a W hW hd
      have h4 : a.tmps[4]?.getD undef = .pointer (some ⟨q, 0, none⟩) := slot_eq (hd 4 (by decide))
      refine grows_value _ hW (?_ : _ = _) rfl
      clear hd
      go_simp
    refine each_cons ?_ ?_
    · intro a W hW hd
      have h5 : a.tmps[5]?.getD undef = .pointer (some ⟨q, 0, none⟩) := slot_eq (hd 5 (by decide))
      have xx : W.cell? ⟨q, 0, none⟩ = some (.slice A n c) := (hW.cell (p := ⟨q, 0, none⟩) HQL.out).trans HX0.out
      refine grows_value _ hW (?_ : _ = _) rfl
      clear hd
      go_simp
    refine each_cons ?_ ?_
    · intro a W hW hd
      have h0 : a.tmps[0]?.getD undef = .pointer (some ⟨q, 0, none⟩) := slot_eq (hd 0 (by decide))
      exact grows_value _ hW (by simp [execOp, Act.eval, h0]) rfl
    refine each_cons ?_ ?_
    · intro a W hW hd
      have h7 : a.tmps[7]?.getD undef = .pointer (some ⟨q, 0, none⟩) := slot_eq (hd 7 (by decide))
      refine grows_value _ hW (?_ : _ = _) rfl
      clear hd
      go_simp
    refine each_cons ?_ ?_
    · intro a W hW hd
      have h8 : a.tmps[8]?.getD undef = .pointer (some ⟨q, 0, none⟩) := slot_eq (hd 8 (by decide))
      refine grows_value _ hW (?_ : _ = _) rfl
      clear hd
      go_simp
    refine each_cons ?_ ?_
    · intro a W hW hd
      have h9 : a.tmps[9]?.getD undef = .pointer (some ⟨q, 1, none⟩) := slot_eq (hd 9 (by decide))
      have xx : W.cell? ⟨q, 1, none⟩ = some (.slice B m d) := (hW.cell (p := ⟨q, 1, none⟩) HQL.out).trans HX1.out
      refine grows_value _ hW (?_ : _ = _) rfl
      clear hd
      go_simp
    refine each_cons ?_ ?_
    · intro a W hW hd
      have h0 : a.tmps[0]?.getD undef = .pointer (some ⟨q, 0, none⟩) := slot_eq (hd 0 (by decide))
      exact grows_value _ hW (by simp [execOp, Act.eval, h0]) rfl
    refine each_cons ?_ ?_
    · intro a W hW hd
      have h11 : a.tmps[11]?.getD undef = .pointer (some ⟨q, 0, none⟩) := slot_eq (hd 11 (by decide))
      refine grows_value _ hW (?_ : _ = _) rfl
      clear hd
      go_simp
    refine each_cons ?_ ?_
    · intro a W hW hd
      have h12 : a.tmps[12]?.getD undef = .pointer (some ⟨q, 0, none⟩) := slot_eq (hd 12 (by decide))
      refine grows_value _ hW (?_ : _ = _) rfl
      clear hd
      go_simp
    refine each_cons ?_ ?_
    · intro a W hW hd
      have h13 : a.tmps[13]?.getD undef = .pointer (some ⟨q, 2, none⟩) := slot_eq (hd 13 (by decide))
      have xx : W.cell? ⟨q, 2, none⟩ = some (.int .u64 (S : Int)) := (hW.cell (p := ⟨q, 2, none⟩) HQL.out).trans HX2.out
      refine grows_value _ hW (?_ : _ = _) rfl
      clear hd
      go_simp
    refine each_cons ?_ ?_
    · intro a W hW hd
      have h6 : a.tmps[6]?.getD undef = .slice A n c := slot_eq (hd 6 (by decide))
      have h10 : a.tmps[10]?.getD undef = .slice B m d := slot_eq (hd 10 (by decide))
      have h14 : a.tmps[14]?.getD undef = .int .u64 (S : Int) := slot_eq (hd 14 (by decide))
      refine grows_value _ hW (?_ : _ = _) rfl
      have hb := hbd W
      clear hd
      simp [execOp, Act.eval, h6, h10, h14, hb]
    refine each_cons ?_ ?_
    · intro a W hW hd
      have h15 : a.tmps[15]?.getD undef = .agg #[.slice A n c, .slice B m d, .int .u64 (S : Int)] := slot_eq (hd 15 (by decide))
      refine grows_new (.pointer (some ⟨W.heap.size, 0, none⟩)) (w' := W.alloc (.cells #[.slice A n c, .slice B m d, .int .u64 (S : Int)] 105)) (?_ : _ = _) ⟨_, rfl, hW.size, heap_alloc_new W _⟩ (below_alloc _ _) (hW.alloc hW.size _)
      clear hd
      go_simp
    refine each_cons ?_ ?_
    · intro a W hW hd
      obtain ⟨b, h16, hl, ho⟩ := hd 16 (by decide)
      have h16' : a.tmps[16]?.getD undef = .pointer (some ⟨b, 0, none⟩) := slot_eq h16
      exact grows_value (.pointer (some ⟨b, 0, none⟩)) hW (by simp [execOp, Act.eval, h16']) ⟨b, rfl, hl, ho⟩
    exact each_nil
  · refine behind_val rfl ?_
    refine behind_val rfl ?_
    refine behind_val rfl ?_
    refine behind_val rfl ?_
    refine behind_val rfl ?_
    refine behind_val rfl ?_
    refine behind_val rfl ?_
    refine behind_val rfl ?_
    refine behind_val rfl ?_
    refine behind_val rfl ?_
    refine behind_val rfl ?_
    refine behind_val rfl ?_
    refine behind_val rfl ?_
    refine behind_cons fun v16 => ?_
    refine behind_cons fun v2 => ?_
    refine behind_nil fun W1 hCW1 hFW1 => ?_
    simp only [Act.put, List.setIfInBounds_toArray, List.set_cons_succ, List.set_cons_zero, List.drop_succ_cons, List.drop_zero]
    obtain ⟨_, b, rfl, hl, ho⟩ := hFW1
    have HO := Lib.hid ho
    have HL := Lib.hid hl
    have HC := Lib.hid hCW1
    clear ho hl hCW1
    go_wp2_with fail
    go_ret
    have hlt := lt_heap HO.out
    refine ⟨b, rfl, HL.out, ?_, HC.out⟩
    have hk := HX.out.step HC.out
    refine ⟨HO.out, .inr rfl, fun k h => ?_, ?_, ?_, hk.c1, hk.c2, hk.d1, hk.d2⟩
    · rcases h with h | rfl
      · exact hk.old k h
      · exact hlt
    · exact hk.has.mono fun k h => ⟨.inl h.1, fun e => by have := HX.out.old k h.1; have := HL.out; omega⟩
    · exact hk.free.mono fun k h => ⟨.inl h.1, fun e => by have := HX.out.old k h.1; have := HL.out; omega⟩
theorem rcopy_any {w : World} {q : Nat} {s : Ar} {G : Nat → Prop} (h : RA w q s G) :
    Calls Try.prog 53 #[.pointer (some ⟨q, 0, none⟩)] w fun e w' => ∃ b, e = .returned (.pointer (some ⟨b, 0, none⟩)) ∧ w.heap.size ≤ b ∧ RA w' b s (fun k => G k ∨ k = b) ∧ Below w.heap.size w w' := by
  obtain ⟨A, c, B, d, h⟩ := h
  refine (rcopyX_any h).mono ?_
  rintro e w' ⟨b, he, hl, hx, hb⟩
  exact ⟨b, he, hl, ⟨A, c, B, d, hx⟩, hb⟩
end Go.Proofs.Ytkmakdhlaenaoaa
