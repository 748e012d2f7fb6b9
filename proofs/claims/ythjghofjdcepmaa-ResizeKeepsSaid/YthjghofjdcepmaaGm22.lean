import Derived.BigQuiet
import Derived.Test.YthjghofjdcepmaaGm16
import Derived.Test.YthjghofjdcepmaaGm21
import Derived.Test.YthjghofjdcepmaaGm11
/- Stage 14: the landed growing table in memory; made, moves, both. -/
namespace Go.Proofs.Ythjghofjdcepmaa
set_option maxRecDepth 100000
open Go.RowKit Go.Shelf
/-- The landed growing table at p stands for s; its table of now at pn, its next one at px (if it moves). -/
structure PGY (w : World) (p pn px : Nat) (s : Gr) (F Fn Fx : Nat → Prop) : Prop where
  blk : w.heap[p]? = some (.cells #[.int .i64 (s.most : Int), .pointer (some ⟨pn, 0, none⟩), .pointer (if s.mv then some ⟨px, 0, none⟩ else none), .int .i64 (s.at_ : Int)] 51 (0, 0))
  now : PT0 w pn s.now Fn
  next : s.mv = true → PT0 w px s.next Fx
  mem : F p
  subN : ∀ k, Fn k → F k
  subX : s.mv = true → ∀ k, Fx k → F k
  apN : ¬ Fn p
  apX : s.mv = true → ¬ Fx p ∧ ∀ k, Fx k → ¬ Fn k
  old : ∀ k, F k → k < w.heap.size
  may : mayI (s.most : Int) = true
def PG0 (w : World) (p : Nat) (s : Gr) (F : Nat → Prop) : Prop := ∃ pn px Fn Fx, PGY w p pn px s F Fn Fx
theorem pt0_mem {w : World} {p : Nat} {s : Tb} {F : Nat → Prop} (h : PT0 w p s F) : F p := by
  obtain ⟨g, c, e, h⟩ := h
  exact PTY.mp h
theorem pt0_may {w : World} {p : Nat} {s : Tb} {F : Nat → Prop} (h : PT0 w p s F) : mayI (s.n : Int) = true := by
  obtain ⟨g, c, e, h⟩ := h
  exact PTY.may h
theorem pt0_step {w w' : World} {p : Nat} {s : Tb} {F : Nat → Prop} (h : PT0 w p s F) (hb : Below w.heap.size w w') : PT0 w' p s F := footPT0.keep h (Kept.of_below hb fun _ => False) fun _ _ q => q
section
variable {w w' : World} {p pn px : Nat} {s : Gr} {F Fn Fx : Nat → Prop}
theorem PGY.keep {R : Nat → Prop} (h : PGY w p pn px s F Fn Fx) (hk : Kept R w w') (hd : ∀ k, F k → ¬ R k) : PGY w' p pn px s F Fn Fx :=
  ⟨(hk.block p (h.old p h.mem) (hd p h.mem)).trans h.blk, footPT0.keep h.now hk fun k q => hd k (h.subN k q), fun e => footPT0.keep (h.next e) hk fun k q => hd k (h.subX e k q), h.mem, h.subN, h.subX, h.apN, h.apX, fun k hG => Nat.lt_of_lt_of_le (h.old k hG) hk.size, h.may⟩
theorem PGY.step (h : PGY w p pn px s F Fn Fx) (hb : Below w.heap.size w w') : PGY w' p pn px s F Fn Fx := h.keep (Kept.of_below hb fun _ => False) fun _ _ q => q
theorem footPG0 : FootG PG0 := ⟨fun ⟨a, b, c, d, h⟩ hk hd => ⟨a, b, c, d, h.keep hk hd⟩, fun ⟨_, _, _, _, h⟩ => h.old⟩
/-- The next one is another one; the one of now is. -/
theorem PGY.setX (h : PGY w p pn px s F Fn Fx) (hm : s.mv = true) {t : Tb} {Fy : Nat → Prop} (ha : PT0 w' px t Fy) (hx : ExtG Fx Fy w w') : PGY w' p pn px ⟨s.now, t, true, s.most, s.at_⟩ (fun k => F k ∨ w.heap.size ≤ k ∧ k < w'.heap.size) Fn Fy ∧ ExtG F (fun k => F k ∨ w.heap.size ≤ k ∧ k < w'.heap.size) w w' := by
  obtain ⟨a1, a2⟩ := h.apX hm
  have hq := h.blk
  rw [hm] at hq
  have ho := h.old
  have hz := hx.kept.size
  refine ⟨⟨(hx.kept.block p (ho p h.mem) a1).trans hq, footPT0.keep h.now hx.kept fun k hn hg => a2 k hg hn, fun _ => ha, .inl h.mem, fun k hk => .inl (h.subN k hk), fun _ k hk => (hx.sub k hk).imp (h.subX hm k) id, h.apN, fun _ => ⟨fun hk => ?_, fun k hk hn => ?_⟩, fun k hk => ?_, h.may⟩, fun k hk => hk, hx.kept.mono fun k _ hk => h.subX hm k hk⟩
  · rcases hx.sub p hk with r | r
    · exact a1 r
    · have := ho p h.mem
      omega
  · rcases hx.sub k hk with r | r
    · exact a2 k r hn
    · have := ho k (h.subN k hn)
      omega
  · rcases hk with hk | hk
    · have := ho k hk
      omega
    · exact hk.2
theorem PGY.setN (h : PGY w p pn px s F Fn Fx) {t : Tb} {Fy : Nat → Prop} (ha : PT0 w' pn t Fy) (hx : ExtG Fn Fy w w') : PGY w' p pn px ⟨t, s.next, s.mv, s.most, s.at_⟩ (fun k => F k ∨ w.heap.size ≤ k ∧ k < w'.heap.size) Fy Fx ∧ ExtG F (fun k => F k ∨ w.heap.size ≤ k ∧ k < w'.heap.size) w w' := by
  have ho := h.old
  have hz := hx.kept.size
  refine ⟨⟨(hx.kept.block p (ho p h.mem) h.apN).trans h.blk, ha, fun e => footPT0.keep (h.next e) hx.kept fun k hg hn => (h.apX e).2 k hg hn, .inl h.mem, fun k hk => (hx.sub k hk).imp (h.subN k) id, fun e k hk => .inl (h.subX e k hk), fun hk => ?_, fun e => ⟨(h.apX e).1, fun k hk hn => ?_⟩, fun k hk => ?_, h.may⟩, fun k hk => hk, hx.kept.mono fun k _ hk => h.subN k hk⟩
  · rcases hx.sub p hk with r | r
    · exact h.apN r
    · have := ho p h.mem
      omega
  · rcases hx.sub k hn with r | r
    · exact (h.apX e).2 k hk r
    · have := ho k (h.subX e k hk)
      omega
  · rcases hk with hk | hk
    · have := ho k hk
      omega
    · exact hk.2
/-- Fields of its own block stored. -/
theorem PGY.turn (h : PGY w p pn px s F Fn Fx) (hk : Kept (fun k => k = p) w w') {s' : Gr} (hb : w'.heap[p]? = some (.cells #[.int .i64 (s'.most : Int), .pointer (some ⟨pn, 0, none⟩), .pointer (if s'.mv then some ⟨px, 0, none⟩ else none), .int .i64 (s'.at_ : Int)] 51 (0, 0))) (hn : s'.now = s.now) (hm : s'.most = s.most) (hx : s'.mv = true → s.mv = true ∧ s'.next = s.next) : PGY w' p pn px s' F Fn Fx ∧ ExtG F F w w' := by
  refine ⟨⟨hb, by rw [hn]; exact footPT0.keep h.now hk fun k hk e => h.apN (by rw [← e]; exact hk), fun e => ?_, h.mem, h.subN, fun e => h.subX (hx e).1, h.apN, fun e => h.apX (hx e).1, fun k hk' => Nat.lt_of_lt_of_le (h.old k hk') hk.size, by rw [hm]; exact h.may⟩, fun k hk => .inl hk, hk.mono fun k _ e => by rw [e]; exact h.mem⟩
  obtain ⟨e1, e2⟩ := hx e
  rw [e2]
  exact footPT0.keep (h.next e1) hk fun k hk e' => (h.apX e1).1 (by rw [← e']; exact hk)
theorem PGY.ended (h : PGY w p pn px s F Fn Fx) (hm : s.mv = true) (hk : Kept (fun k => k = p) w w') {at' : Nat} (hb : w'.heap[p]? = some (.cells #[.int .i64 (s.most : Int), .pointer (some ⟨px, 0, none⟩), .pointer none, .int .i64 (at' : Int)] 51 (0, 0))) : PGY w' p px px ⟨s.next, s.next, false, s.most, at'⟩ F Fx Fx ∧ ExtG F F w w' := by
  refine ⟨⟨hb, footPT0.keep (h.next hm) hk fun k hk e => (h.apX hm).1 (by rw [← e]; exact hk), fun e => (by cases e), h.mem, h.subX hm, fun e => (by cases e), (h.apX hm).1, fun e => (by cases e), fun k hk' => Nat.lt_of_lt_of_le (h.old k hk') hk.size, h.may⟩, fun k hk => .inl hk, hk.mono fun k _ e => by rw [e]; exact h.mem⟩
end
/-- One that is not there, or was not made. -/
def UnG (pa : Option Addr) (w : World) : Prop := pa = none ∨ ∃ p, pa = some ⟨p, 0, none⟩ ∧ w.cell? ⟨p, 1, none⟩ = some (.pointer none)
theorem UnG.step {pa : Option Addr} {w W : World} (h : UnG pa w) (hb : Below w.heap.size w W) : UnG pa W := by
  rcases h with rfl | ⟨p, rfl, h⟩
  · exact .inl rfl
  · obtain ⟨cs, t, fr, hq⟩ := cells_of_cell h
    exact .inr ⟨p, rfl, (kept_cell_block (hb.block p (lt_heap' hq))).trans h⟩
theorem gmade_un {pa : Option Addr} {w : World} (h : UnG pa w) : Calls Try.prog 28 #[.pointer pa] w (ret (.bool false) w) := by
  rcases h with rfl | ⟨p, rfl, h⟩
  · go_enter Try.func28, Try.ntmps28
    go_wp2_with fail
    go_ret
    exact ⟨rfl, Below.refl _ _⟩
  · go_enter Try.func28, Try.ntmps28
    go_wp2_with fail
    go_ret
    exact ⟨rfl, Below.refl _ _⟩
theorem gmade_c {w : World} {p : Nat} {a : Addr} (h : w.cell? ⟨p, 1, none⟩ = some (.pointer (some a))) : Calls Try.prog 28 #[.pointer (some ⟨p, 0, none⟩)] w (ret (.bool true) w) := by
  go_enter Try.func28, Try.ntmps28
  go_wp2_with fail
  go_ret
  exact ⟨rfl, Below.refl _ _⟩
theorem gmoves_un {pa : Option Addr} {w : World} (h : UnG pa w) : Calls Try.prog 32 #[.pointer pa] w (ret (.bool false) w) := by
  have HC := Lib.hid (gmade_un h)
  clear h
  go_enter Try.func32, Try.ntmps32
  go_wp2_with (first
    | (go_at_call 28
       refine HC.out.mono ?_
       rintro e u1 ⟨rfl, hb⟩
       have HB := Lib.hid hb
       clear hb))
  go_ret
  exact ⟨rfl, HB.out⟩
theorem gmoves_c {w : World} {p : Nat} {a : Addr} {b : Option Addr} (h : w.cell? ⟨p, 1, none⟩ = some (.pointer (some a))) (h2 : w.cell? ⟨p, 2, none⟩ = some (.pointer b)) : Calls Try.prog 32 #[.pointer (some ⟨p, 0, none⟩)] w (ret (.bool b.isSome) w) := by
  have HC := Lib.hid (gmade_c h)
  have H2 := Lib.hid h2
  clear h h2
  cases b with
  | none =>
    go_enter Try.func32, Try.ntmps32
    go_wp2_with (first
      | (go_at_call 28
         refine HC.out.mono ?_
         rintro e u1 ⟨rfl, hb⟩
         obtain ⟨cs, t, fr, hq⟩ := cells_of_cell H2.out
         have x2 : u1.cell? ⟨p, 2, none⟩ = some (.pointer none) := (kept_cell_block (hb.block p (lt_heap' hq))).trans H2.out
         have HB := Lib.hid hb
         clear hb hq))
    go_ret
    exact ⟨rfl, HB.out⟩
  | some b =>
    go_enter Try.func32, Try.ntmps32
    go_wp2_with (first
      | (go_at_call 28
         refine HC.out.mono ?_
         rintro e u1 ⟨rfl, hb⟩
         obtain ⟨cs, t, fr, hq⟩ := cells_of_cell H2.out
         have x2 : u1.cell? ⟨p, 2, none⟩ = some (.pointer (some b)) := (kept_cell_block (hb.block p (lt_heap' hq))).trans H2.out
         have HB := Lib.hid hb
         clear hb hq))
    go_ret
    exact ⟨rfl, HB.out⟩
/-- One cell of an array or a struct, as a result. -/
theorem results_row0 {P : Program} {fn : Func} {p : Tmp} {ty : TypeId} (h : fn.results = #[.cell p ty]) (tmps : Array Value) (w : World) (g : Nat) (t : TypeId) (cs : Array Value) (fr : Nat × Nat) (d : TypeDesc)
    (hp : tmps.getD p undef = .pointer (some ⟨g, 0, none⟩)) (hg : w.heap[g]? = some (.cells cs t fr))
    (hu : P.underlying ty = some d) (hd : (match d with | .struct _ | .array _ _ => true | _ => false) = true) (hi : (P.info? ty).map (·.size) = some cs.size) :
    (results fn tmps).run P w = .ok (.agg cs) w := by
  have hp' : tmps[p]?.getD undef = .pointer (some ⟨g, 0, none⟩) := by simpa using hp
  simp [results, h, hp', asAddr, run_loadVar_row w g t ty cs fr d hg hu hd hi]
theorem gboth_un {pa : Option Addr} {w : World} (h : UnG pa w) : Calls Try.prog 53 #[.pointer pa] w (ret (.agg #[.pointer none, .pointer none]) w) := by
  have HC := Lib.hid (fun W (hW : Below w.heap.size w W) => gmade_un (h.step hW))
  clear h
  have HZ : Hid ((w.alloc (.cells #[.pointer none, .pointer none] 81)).heap[w.heap.size]? = some (.cells #[.pointer none, .pointer none] 81 (0, 0))) := Lib.hid (heap_alloc_new w _)
  have HB : Hid (Below w.heap.size w (w.alloc (.cells #[.pointer none, .pointer none] 81))) := Lib.hid (below_alloc w _)
  go_enter Try.func53, Try.ntmps53
  go_upto_region 1 with fail
  change Code.wp _ _ _ _ (w.alloc (.cells #[.pointer none, .pointer none] 81))
  go_upto_region 2 with (first
    | (go_at_call 28
       refine (HC.out _ HB.out).mono ?_
       rintro e u ⟨rfl, hb⟩
       have HBu := Lib.hid (HB.out.trans (hb.mono HB.out.size))
       have HZu : Hid (u.heap[w.heap.size]? = some (.cells #[.pointer none, .pointer none] 81 (0, 0))) := Lib.hid ((hb.block _ (lt_heap HZ.out)).trans HZ.out)
       clear hb))
  go_wp2_with (first
    | (refine wpList_store_row rfl 81 (.tmp 2) (.tmp 6) rfl w.heap.size #[.pointer none, .pointer none] rfl rfl 81 #[.pointer none, .pointer none] HZu.out (by kernel_rfl) rfl (by simp [Value.oneCell']) ?_))
  refine bodyPost_ret (v := .agg #[.pointer none, .pointer none]) (results_row0 Try.results53 _ _ w.heap.size 81 #[.pointer none, .pointer none] (0, 0) _ rfl (setRow_heap _ w.heap.size _ #[.pointer none, .pointer none] _ _ HZu.out) Try.underlying81 rfl (by kernel_rfl)) rfl ?_
  exact ⟨rfl, below_setRow HBu.out (Nat.le_refl _) _⟩
theorem gboth_c {w : World} {p pn : Nat} {b : Option Addr} {mo cu : Value} (h : w.heap[p]? = some (.cells #[mo, .pointer (some ⟨pn, 0, none⟩), .pointer b, cu] 51 (0, 0))) : Calls Try.prog 53 #[.pointer (some ⟨p, 0, none⟩)] w (ret (.agg #[.pointer (some ⟨pn, 0, none⟩), .pointer b]) w) := by
  have HC := Lib.hid (fun W (hW : Below w.heap.size w W) => gmade_c (blk_cell ((hW.block p (lt_heap h)).trans h) 1))
  have H := Lib.hid h
  clear h
  have HZ : Hid ((w.alloc (.cells #[.pointer none, .pointer none] 81)).heap[w.heap.size]? = some (.cells #[.pointer none, .pointer none] 81 (0, 0))) := Lib.hid (heap_alloc_new w _)
  have HB : Hid (Below w.heap.size w (w.alloc (.cells #[.pointer none, .pointer none] 81))) := Lib.hid (below_alloc w _)
  obtain ⟨z, hz⟩ : ∃ z, z = w.heap.size := ⟨_, rfl⟩
  have HZB : Hid (w.heap.size ≤ z) := Lib.hid (by omega)
  rw [← hz] at HZ
  go_enter Try.func53, Try.ntmps53
  go_upto_region 1 with fail
  change Code.wp _ _ _ _ (w.alloc (.cells #[.pointer none, .pointer none] 81))
  rw [← hz]
  clear hz
  generalize w.alloc (.cells #[.pointer none, .pointer none] 81) = w1 at *
  go_upto_region 3 with (first
    | (go_at_call 28
       refine (HC.out _ HB.out).mono ?_
       rintro e u ⟨rfl, hb⟩
       have HBu := Lib.hid (HB.out.trans (hb.mono HB.out.size))
       have HZu : Hid (u.heap[z]? = some (.cells #[.pointer none, .pointer none] 81 (0, 0))) := Lib.hid ((hb.block _ (lt_heap HZ.out)).trans HZ.out)
       have HP : Hid (u.heap[p]? = some (.cells #[mo, .pointer (some ⟨pn, 0, none⟩), .pointer b, cu] 51 (0, 0))) := Lib.hid ((HBu.out.block p (lt_heap H.out)).trans H.out)
       clear hb))
  clear HC HZ HB
  refine wp_region_grow (C := fun W => Below u.heap.size u W) 9 16 [val (.pointer (some ⟨p, 0, none⟩)), val (.pointer (some ⟨p, 0, none⟩)), val (.pointer (some ⟨p, 1, none⟩)), val (.pointer (some ⟨pn, 0, none⟩)), val (.pointer (some ⟨p, 0, none⟩)), val (.pointer (some ⟨p, 0, none⟩)), val (.pointer (some ⟨p, 2, none⟩)), val (.pointer b), val (.agg #[.pointer (some ⟨pn, 0, none⟩), .pointer b])] (by kernel_rfl) rfl (by kernel_rfl) rfl ⟨stb_val _, stb_val _, stb_val _, stb_val _, stb_val _, stb_val _, stb_val _, stb_val _, stb_val _, trivial⟩ (Below.refl _ _).drew ?_ ?_
  · refine each_cons ?_ ?_
    · intro a W hW hd
      have h0 : a.tmps[0]?.getD undef = .pointer (some ⟨p, 0, none⟩) := slot_eq (hd 0 (by decide))
      exact grows_value _ hW (by simp [execOp, Act.eval, h0]) rfl
    refine each_cons ?_ ?_
    · intro a W hW hd
      have h7 : a.tmps[7]?.getD undef = .pointer (some ⟨p, 0, none⟩) := slot_eq (hd 7 (by decide))
      refine grows_value _ hW (?_ : _ = _) rfl
      clear hd
      go_simp
    refine each_cons ?_ ?_
    · intro a W hW hd
      have h8 : a.tmps[8]?.getD undef = .pointer (some ⟨p, 0, none⟩) := slot_eq (hd 8 (by decide))
      refine grows_value _ hW (?_ : _ = _) rfl
      clear hd
      go_simp
    refine each_cons ?_ ?_
    · intro a W hW hd
      have h9 : a.tmps[9]?.getD undef = .pointer (some ⟨p, 1, none⟩) := slot_eq (hd 9 (by decide))
      have yl := blk_cell ((hW.block p (lt_heap HP.out)).trans HP.out) 1
      refine grows_value _ hW (?_ : _ = _) rfl
      clear hd
      go_simp
    refine each_cons ?_ ?_
    · intro a W hW hd
      have h0 : a.tmps[0]?.getD undef = .pointer (some ⟨p, 0, none⟩) := slot_eq (hd 0 (by decide))
      exact grows_value _ hW (by simp [execOp, Act.eval, h0]) rfl
    refine each_cons ?_ ?_
    · intro a W hW hd
      have h11 : a.tmps[11]?.getD undef = .pointer (some ⟨p, 0, none⟩) := slot_eq (hd 11 (by decide))
      refine grows_value _ hW (?_ : _ = _) rfl
      clear hd
      go_simp
    refine each_cons ?_ ?_
    · intro a W hW hd
      have h12 : a.tmps[12]?.getD undef = .pointer (some ⟨p, 0, none⟩) := slot_eq (hd 12 (by decide))
      refine grows_value _ hW (?_ : _ = _) rfl
      clear hd
      go_simp
    refine each_cons ?_ ?_
    · intro a W hW hd
      have h13 : a.tmps[13]?.getD undef = .pointer (some ⟨p, 2, none⟩) := slot_eq (hd 13 (by decide))
      have yl := blk_cell ((hW.block p (lt_heap HP.out)).trans HP.out) 2
      refine grows_value _ hW (?_ : _ = _) rfl
      clear hd
      go_simp
    refine each_cons ?_ ?_
    · intro a W hW hd
      have h10 : a.tmps[10]?.getD undef = .pointer (some ⟨pn, 0, none⟩) := slot_eq (hd 10 (by decide))
      have h14 : a.tmps[14]?.getD undef = .pointer b := slot_eq (hd 14 (by decide))
      have hbd : ∀ W : World, (Instr.build 81 #[(0, .pointer (some ⟨pn, 0, none⟩)), (1, .pointer b)]).run Try.prog W = .ok (.agg #[.pointer (some ⟨pn, 0, none⟩), .pointer b]) W := fun _ => by kernel_rfl
      refine grows_value _ hW (?_ : _ = _) rfl
      clear hd
      go_simp
    exact each_nil
  · refine behind_val rfl ?_
    refine behind_val rfl ?_
    refine behind_val rfl ?_
    refine behind_val rfl ?_
    refine behind_val rfl ?_
    refine behind_val rfl ?_
    refine behind_val rfl ?_
    refine behind_val rfl ?_
    refine behind_val rfl ?_
    refine behind_nil fun v hCv hFv => ?_
    simp only [Act.put, List.setIfInBounds_toArray, List.set_cons_succ, List.set_cons_zero, List.drop_succ_cons, List.drop_zero]
    have HZ2 : Hid (v.heap[z]? = some (.cells #[.pointer none, .pointer none] 81 (0, 0))) := Lib.hid ((hCv.block _ (lt_heap HZu.out)).trans HZu.out)
    have HB2 := Lib.hid hCv
    clear hCv hFv
    go_wp2_with (first
      | (refine wpList_store_row rfl 81 (.tmp 2) (.tmp 15) rfl z #[.pointer (some ⟨pn, 0, none⟩), .pointer b] rfl rfl 81 #[.pointer none, .pointer none] HZ2.out (by kernel_rfl) rfl (by simp [Value.oneCell']) ?_))
    refine bodyPost_ret (v := .agg #[.pointer (some ⟨pn, 0, none⟩), .pointer b]) (results_row0 Try.results53 _ _ z 81 #[.pointer (some ⟨pn, 0, none⟩), .pointer b] (0, 0) _ rfl (setRow_heap _ z _ #[.pointer (some ⟨pn, 0, none⟩), .pointer b] _ _ HZ2.out) Try.underlying81 rfl (by kernel_rfl)) rfl ?_
    exact ⟨rfl, below_setRow (HBu.out.trans (HB2.out.mono HBu.out.size)) HZB.out _⟩
end Go.Proofs.Ythjghofjdcepmaa
/- Stage 14: the landed growing table: Left, Places, Entries, Marks. -/
namespace Go.Proofs.Ythjghofjdcepmaa
set_option maxRecDepth 100000
open Go.RowKit Go.Shelf
theorem gleft_un {pa : Option Addr} {w : World} (h : UnG pa w) : Calls Try.prog 22 #[.pointer pa] w (ret (.int .i64 0) w) := by
  have HC := Lib.hid (gmoves_un h)
  clear h
  go_enter Try.func22, Try.ntmps22
  go_wp2_with (first
    | (go_at_call 32
       refine HC.out.mono ?_
       rintro e u1 ⟨rfl, hb⟩
       have HB := Lib.hid hb
       clear hb))
  go_ret
  exact ⟨rfl, HB.out⟩
section
variable {w w' : World} {p pn px : Nat} {s : Gr} {F Fn Fx : Nat → Prop}
theorem PGY.moves (h : PGY w p pn px s F Fn Fx) : Calls Try.prog 32 #[.pointer (some ⟨p, 0, none⟩)] w (ret (.bool s.mv) w) := by
  have h1 := gmoves_c (blk_cell h.blk 1) (blk_cell h.blk 2)
  have e : (if s.mv then some (⟨px, 0, none⟩ : Addr) else none).isSome = s.mv := by cases s.mv <;> rfl
  rwa [e] at h1
theorem PGY.made (h : PGY w p pn px s F Fn Fx) : Calls Try.prog 28 #[.pointer (some ⟨p, 0, none⟩)] w (ret (.bool true) w) := gmade_c (blk_cell h.blk 1)
theorem PGY.both (h : PGY w p pn px s F Fn Fx) : Calls Try.prog 53 #[.pointer (some ⟨p, 0, none⟩)] w (ret (.agg #[.pointer (some ⟨pn, 0, none⟩), .pointer (if s.mv then some ⟨px, 0, none⟩ else none)]) w) := gboth_c h.blk
theorem gleft_any (h : PGY w p pn px s F Fn Fx) (hs : s.Ok) : Calls Try.prog 22 #[.pointer (some ⟨p, 0, none⟩)] w (ret (.int .i64 (s.left : Int)) w) := by
  have HM := Lib.hid h.moves
  have HPL := Lib.hid fun W (k : Below w.heap.size w W) => tabP.places (pt0_step h.now k) hs.now
  have HQ := Lib.hid h.blk
  cases hmv : s.mv with
  | false =>
    have HL : Hid (s.left = 0) := Lib.hid (by unfold Gr.left; rw [hmv, if_neg Bool.false_ne_true])
    rw [hmv] at HM
    clear h hs hmv
    go_enter Try.func22, Try.ntmps22
    go_wp2_with (first
      | (go_at_call 32
         refine HM.out.mono ?_
         rintro e u1 ⟨rfl, hb⟩
         have HB := Lib.hid hb
         clear hb))
    go_ret
    exact ⟨by rw [HL.out]; rfl, HB.out⟩
  | true =>
    have hc := hs.cur hmv
    have ht := hs.now.top
    obtain ⟨n, hn⟩ : ∃ n, n = s.now.n := ⟨_, rfl⟩
    obtain ⟨m, hm⟩ : ∃ m, m = s.at_ := ⟨_, rfl⟩
    have HL : Hid (s.left = n - m) := Lib.hid (by unfold Gr.left; rw [hmv, if_pos rfl, hn, hm])
    rw [← hn, ← hm] at hc
    rw [← hn] at HPL ht
    rw [← hm] at HQ
    rw [hmv] at HM
    have HV := Lib.hid hmv
    have zw : IntKind.i64.wrap ((n : Int) - (m : Int)) = (n : Int) - (m : Int) := by rw [IntKind.wrap_i64]; omega
    have HE : Hid (((n - m : Nat) : Int) = (n : Int) - (m : Int)) := Lib.hid (by omega)
    clear h hs hmv hn hm hc ht
    go_enter Try.func22, Try.ntmps22
    go_upto_region 3 with (first
      | (go_at_call 32
         refine HM.out.mono ?_
         rintro e u1 ⟨rfl, hb⟩
         have HB := Lib.hid hb
         have hq := (hb.block p (lt_heap HQ.out)).trans HQ.out
         have q1 : ∀ W : Stay u1, W.w.cell? ⟨p, 1, none⟩ = some (.pointer (some ⟨pn, 0, none⟩)) := fun W => Stay.cell (blk_cell hq 1) W
         have q3 : ∀ W : Stay u1, W.w.cell? ⟨p, 3, none⟩ = some (.int .i64 (m : Int)) := fun W => Stay.cell (blk_cell hq 3) W
         have HP1 := Lib.hid fun W (k : Below u1.heap.size u1 W) => HPL.out W (HB.out.trans (k.mono HB.out.size))
         clear hb hq))
    refine wp_region_stay (by kernel_rfl) (by kernel_rfl) ?_
    repeat (go_big_quiet_step (first | (go_at_call 45; with_reducible exact Calls.stay _ (HP1.out _ (Stay.below _)))))
    refine wpQuiet_nil ?_
    intro w' hw'
    obtain ⟨W, rfl⟩ := hw'
    have HB2 := Lib.hid W.below
    clear q1 q3
    go_wp2_with fail
    go_ret
    exact ⟨by rw [HL.out, HE.out]; rfl, HB.out.trans (HB2.out.mono HB.out.size)⟩
end
theorem gplaces_c {w : World} {pa : Option Addr} {a b : Option Addr} {x y : Int} (hc : Calls Try.prog 53 #[.pointer pa] w (ret (.agg #[.pointer a, .pointer b]) w))
    (ha : ∀ W, Below w.heap.size w W → Calls Try.prog 45 #[.pointer a] W (ret (.int .i64 x) W)) (hb : ∀ W, Below w.heap.size w W → Calls Try.prog 45 #[.pointer b] W (ret (.int .i64 y) W)) : Calls Try.prog 19 #[.pointer pa] w (ret (.tuple #[.int .i64 x, .int .i64 y]) w) := by
  have HC := Lib.hid hc
  have HA := Lib.hid ha
  have HB := Lib.hid hb
  clear hc ha hb
  go_enter Try.func19, Try.ntmps19
  go_upto_region 2 with (first
    | (go_at_call 53
       refine HC.out.mono ?_
       rintro e u1 ⟨rfl, hb⟩
       have HB1 := Lib.hid hb
       clear hb))
  obtain ⟨z, hz⟩ : ∃ z, z = u1.heap.size := ⟨_, rfl⟩
  have HZ : Hid ((u1.alloc (.cells #[.pointer a, .pointer b] 81)).heap[z]? = some (.cells #[.pointer a, .pointer b] 81 (0, 0))) := Lib.hid (by rw [hz]; exact heap_alloc_new u1 _)
  have HB2 : Hid (Below w.heap.size w (u1.alloc (.cells #[.pointer a, .pointer b] 81))) := Lib.hid (HB1.out.alloc HB1.out.size _)
  rw [← hz]
  clear hz HB1
  generalize u1.alloc (.cells #[.pointer a, .pointer b] 81) = u2 at *
  have q0 : ∀ W : Stay u2, W.w.cell? ⟨z, 0, none⟩ = some (.pointer a) := fun W => Stay.cell (blk_cell HZ.out 0) W
  have q1 : ∀ W : Stay u2, W.w.cell? ⟨z, 1, none⟩ = some (.pointer b) := fun W => Stay.cell (blk_cell HZ.out 1) W
  have HA2 := Lib.hid fun W (k : Below u2.heap.size u2 W) => HA.out W (HB2.out.trans (k.mono HB2.out.size))
  have HBB := Lib.hid fun W (k : Below u2.heap.size u2 W) => HB.out W (HB2.out.trans (k.mono HB2.out.size))
  clear HA HB
  refine wp_region_stay (by kernel_rfl) (by kernel_rfl) ?_
  repeat (go_big_quiet_step (first | (go_at_call 45; with_reducible exact Calls.stay _ (HA2.out _ (Stay.below _))) | (go_at_call 45; with_reducible exact Calls.stay _ (HBB.out _ (Stay.below _)))))
  refine wpQuiet_nil ?_
  intro w' hw'
  obtain ⟨W, rfl⟩ := hw'
  have HB3 := Lib.hid W.below
  clear q0 q1
  go_wp2_with fail
  go_ret2
  exact ⟨rfl, HB2.out.trans (HB3.out.mono HB2.out.size)⟩
theorem gentries_c {w : World} {pa : Option Addr} {a b : Option Addr} {x y : Int} (hc : Calls Try.prog 53 #[.pointer pa] w (ret (.agg #[.pointer a, .pointer b]) w))
    (ha : ∀ W, Below w.heap.size w W → Calls Try.prog 56 #[.pointer a] W (ret (.int .i64 x) W)) (hb : ∀ W, Below w.heap.size w W → Calls Try.prog 56 #[.pointer b] W (ret (.int .i64 y) W)) (hz : IntKind.i64.wrap (x + y) = x + y) : Calls Try.prog 21 #[.pointer pa] w (ret (.int .i64 (x + y)) w) := by
  have HC := Lib.hid hc
  have HA := Lib.hid ha
  have HB := Lib.hid hb
  clear hc ha hb
  go_enter Try.func21, Try.ntmps21
  go_upto_region 2 with (first
    | (go_at_call 53
       refine HC.out.mono ?_
       rintro e u1 ⟨rfl, hb⟩
       have HB1 := Lib.hid hb
       clear hb))
  obtain ⟨z, hz⟩ : ∃ z, z = u1.heap.size := ⟨_, rfl⟩
  have HZ : Hid ((u1.alloc (.cells #[.pointer a, .pointer b] 81)).heap[z]? = some (.cells #[.pointer a, .pointer b] 81 (0, 0))) := Lib.hid (by rw [hz]; exact heap_alloc_new u1 _)
  have HB2 : Hid (Below w.heap.size w (u1.alloc (.cells #[.pointer a, .pointer b] 81))) := Lib.hid (HB1.out.alloc HB1.out.size _)
  rw [← hz]
  clear hz HB1
  generalize u1.alloc (.cells #[.pointer a, .pointer b] 81) = u2 at *
  have q0 : ∀ W : Stay u2, W.w.cell? ⟨z, 0, none⟩ = some (.pointer a) := fun W => Stay.cell (blk_cell HZ.out 0) W
  have q1 : ∀ W : Stay u2, W.w.cell? ⟨z, 1, none⟩ = some (.pointer b) := fun W => Stay.cell (blk_cell HZ.out 1) W
  have HA2 := Lib.hid fun W (k : Below u2.heap.size u2 W) => HA.out W (HB2.out.trans (k.mono HB2.out.size))
  have HBB := Lib.hid fun W (k : Below u2.heap.size u2 W) => HB.out W (HB2.out.trans (k.mono HB2.out.size))
  clear HA HB
  refine wp_region_stay (by kernel_rfl) (by kernel_rfl) ?_
  repeat (go_big_quiet_step (first | (go_at_call 56; with_reducible exact Calls.stay _ (HA2.out _ (Stay.below _))) | (go_at_call 56; with_reducible exact Calls.stay _ (HBB.out _ (Stay.below _)))))
  refine wpQuiet_nil ?_
  intro w' hw'
  obtain ⟨W, rfl⟩ := hw'
  have HB3 := Lib.hid W.below
  clear q0 q1
  go_wp2_with fail
  go_ret
  exact ⟨rfl, HB2.out.trans (HB3.out.mono HB2.out.size)⟩
theorem gmarks_c {w : World} {pa : Option Addr} {a b : Option Addr} {x y : Int} (hc : Calls Try.prog 53 #[.pointer pa] w (ret (.agg #[.pointer a, .pointer b]) w))
    (ha : ∀ W, Below w.heap.size w W → Calls Try.prog 57 #[.pointer a] W (ret (.int .i64 x) W)) (hb : ∀ W, Below w.heap.size w W → Calls Try.prog 57 #[.pointer b] W (ret (.int .i64 y) W)) (hz : IntKind.i64.wrap (x + y) = x + y) : Calls Try.prog 23 #[.pointer pa] w (ret (.int .i64 (x + y)) w) := by
  have HC := Lib.hid hc
  have HA := Lib.hid ha
  have HB := Lib.hid hb
  clear hc ha hb
  go_enter Try.func23, Try.ntmps23
  go_upto_region 2 with (first
    | (go_at_call 53
       refine HC.out.mono ?_
       rintro e u1 ⟨rfl, hb⟩
       have HB1 := Lib.hid hb
       clear hb))
  obtain ⟨z, hz⟩ : ∃ z, z = u1.heap.size := ⟨_, rfl⟩
  have HZ : Hid ((u1.alloc (.cells #[.pointer a, .pointer b] 81)).heap[z]? = some (.cells #[.pointer a, .pointer b] 81 (0, 0))) := Lib.hid (by rw [hz]; exact heap_alloc_new u1 _)
  have HB2 : Hid (Below w.heap.size w (u1.alloc (.cells #[.pointer a, .pointer b] 81))) := Lib.hid (HB1.out.alloc HB1.out.size _)
  rw [← hz]
  clear hz HB1
  generalize u1.alloc (.cells #[.pointer a, .pointer b] 81) = u2 at *
  have q0 : ∀ W : Stay u2, W.w.cell? ⟨z, 0, none⟩ = some (.pointer a) := fun W => Stay.cell (blk_cell HZ.out 0) W
  have q1 : ∀ W : Stay u2, W.w.cell? ⟨z, 1, none⟩ = some (.pointer b) := fun W => Stay.cell (blk_cell HZ.out 1) W
  have HA2 := Lib.hid fun W (k : Below u2.heap.size u2 W) => HA.out W (HB2.out.trans (k.mono HB2.out.size))
  have HBB := Lib.hid fun W (k : Below u2.heap.size u2 W) => HB.out W (HB2.out.trans (k.mono HB2.out.size))
  clear HA HB
  refine wp_region_stay (by kernel_rfl) (by kernel_rfl) ?_
  repeat (go_big_quiet_step (first | (go_at_call 57; with_reducible exact Calls.stay _ (HA2.out _ (Stay.below _))) | (go_at_call 57; with_reducible exact Calls.stay _ (HBB.out _ (Stay.below _)))))
  refine wpQuiet_nil ?_
  intro w' hw'
  obtain ⟨W, rfl⟩ := hw'
  have HB3 := Lib.hid W.below
  clear q0 q1
  go_wp2_with fail
  go_ret
  exact ⟨rfl, HB2.out.trans (HB3.out.mono HB2.out.size)⟩
section
variable {w w' : World} {p pn px : Nat} {s : Gr} {F Fn Fx : Nat → Prop}
theorem gplaces_any (h : PGY w p pn px s F Fn Fx) (hs : s.Ok) : Calls Try.prog 19 #[.pointer (some ⟨p, 0, none⟩)] w (ret (.tuple #[.int .i64 (s.now.n : Int), .int .i64 (s.places : Int)]) w) := by
  refine gplaces_c h.both (fun W k => tabP.places (pt0_step h.now k) hs.now) fun W k => ?_
  unfold Gr.places
  cases hm : s.mv with
  | false => exact tplacesu (.inl rfl)
  | true => exact tabP.places (pt0_step (h.next hm) k) (hs.next hm)
theorem gentries_any (h : PGY w p pn px s F Fn Fx) (hs : s.Ok) : Calls Try.prog 21 #[.pointer (some ⟨p, 0, none⟩)] w (ret (.int .i64 (s.entries : Int)) w) := by
  have h1 := (tent_le hs.now).1
  have h2 : (if s.mv then s.next.entries else 0) ≤ 262144 := by
    split
    · rename_i e
      exact (tent_le (hs.next e)).1
    · omega
  have h3 := gentries_c (x := (s.now.entries : Int)) (y := ((if s.mv then s.next.entries else 0 : Nat) : Int)) h.both (fun W k => tabP.entries (pt0_step h.now k) hs.now) (fun W k => by
    cases hm : s.mv with
    | false => exact tentries_c (tcountu_1 (.inl rfl))
    | true => exact tabP.entries (pt0_step (h.next hm) k) (hs.next hm)) (by rw [IntKind.wrap_i64]; omega)
  rwa [← Int.natCast_add] at h3
theorem gmarks_any (h : PGY w p pn px s F Fn Fx) (hs : s.Ok) : Calls Try.prog 23 #[.pointer (some ⟨p, 0, none⟩)] w (ret (.int .i64 (s.marks : Int)) w) := by
  have h1 := (tent_le hs.now).2
  have h2 : (if s.mv then s.next.marks else 0) ≤ 262144 := by
    split
    · rename_i e
      exact (tent_le (hs.next e)).2
    · omega
  have h3 := gmarks_c (x := (s.now.marks : Int)) (y := ((if s.mv then s.next.marks else 0 : Nat) : Int)) h.both (fun W k => tabP.marks (pt0_step h.now k) hs.now) (fun W k => by
    cases hm : s.mv with
    | false => exact tmarks_c (tcountu_2 (.inl rfl))
    | true => exact tabP.marks (pt0_step (h.next hm) k) (hs.next hm)) (by rw [IntKind.wrap_i64]; omega)
  rwa [← Int.natCast_add] at h3
end
theorem gplaces_un {pa : Option Addr} {w : World} (h : UnG pa w) : Calls Try.prog 19 #[.pointer pa] w (ret (.tuple #[.int .i64 0, .int .i64 0]) w) := gplaces_c (gboth_un h) (fun _ _ => tplacesu (.inl rfl)) (fun _ _ => tplacesu (.inl rfl))
theorem gentries_un {pa : Option Addr} {w : World} (h : UnG pa w) : Calls Try.prog 21 #[.pointer pa] w (ret (.int .i64 0) w) := gentries_c (x := 0) (y := 0) (gboth_un h) (fun _ _ => tentries_c (tcountu_1 (.inl rfl))) (fun _ _ => tentries_c (tcountu_1 (.inl rfl))) (by rw [IntKind.wrap_i64]; omega)
theorem gmarks_un {pa : Option Addr} {w : World} (h : UnG pa w) : Calls Try.prog 23 #[.pointer pa] w (ret (.int .i64 0) w) := gmarks_c (x := 0) (y := 0) (gboth_un h) (fun _ _ => tmarks_c (tcountu_2 (.inl rfl))) (fun _ _ => tmarks_c (tcountu_2 (.inl rfl))) (by rw [IntKind.wrap_i64]; omega)
end Go.Proofs.Ythjghofjdcepmaa
/- A range over a function whose body is told what comes, for iterators that range over other iterators: what a round leaves of the records that lie behind the iterator's call is said too; over any program. -/
namespace Go.Proofs.Ythjghofjdcepmaa
open Go.RowKit
/-- Whatever turns one block that is no cells, below B, keeps what lies from B on. -/
theorem keepsFrom_put {B : Nat} (W : World) (l : Nat) (o' : Obj) (h : l < B) : KeepsFrom B W (W.putObj l o') := ⟨by simp [World.putObj], fun k o hB hk _ => (World.putObj_heap_other (by omega)).trans hk⟩
theorem kf_up {B B' : Nat} {W W' : World} (h : KeepsFrom B W W') (hB : B ≤ B') : KeepsFrom B' W W' := ⟨h.size, fun k o hk hw ho => h.same k o (Nat.le_trans hB hk) hw ho⟩
/-- An iterator that tells T, one by one, as far as it is asked: a round that goes on keeps what Kp says; each one keeps the records behind the call. -/
def SeqQ {α : Type} (F : Fence) (n : Nat) (P : Program) (g : Nat) (lb : Array Value) (encs : α → Array Value) (Kp : World → World → Prop) (T : List α) (w : World) : Prop :=
  ∀ (l : Nat) (J Jx : List α → World → Prop) (W : World), Below w.heap.size w W → OwnFrom W.heap.size J → OwnFrom W.heap.size Jx →
    (∀ pre x W1, J pre W1 → pre ++ [x] <+: T → YieldAt F (n - 1) P l (encs x) W1 fun e W' =>
      (e = .returned (.bool true) ∧ J (pre ++ [x]) W' ∧ Kp W1 W' ∧ KeepsFrom W.heap.size W1 W') ∨ (e = .returned (.bool false) ∧ Jx (pre ++ [x]) W' ∧ KeepsFrom W.heap.size W1 W')) →
    J [] W →
    CallsIn F n P g (#[.func (.yield l) #[] #[]] ++ lb) W fun e W' => (∃ v, e = .returned v) ∧ (J T W' ∨ ∃ pre, pre <+: T ∧ Jx pre W')
theorem wpIn_rangeFunc_Q {F : Fence} {n : Nat} {P : Program} {α : Type} {g : Operand} {ps : Array Tmp} {assign body : Code} {Q : Exit → Act → World → Prop} {a : Act} {w : World}
    (hro : F.round = none) (h1 : 1 ≤ n) {gf : Nat} {lb : Array Value} (hg : a.eval g = .func (.func gf) #[] lb) (hFg : F.fn gf) (eg : ∀ args w, (callFunc gf args).run P w = .ok (.enter gf args) w)
    {encs : α → Array Value} {Kp : World → World → Prop} {T : List α} {w0 : World} (hseq : SeqQ F (n - 1) P gf lb encs Kp T w0) (hb0 : Below w0.heap.size w0 w) (hps : ∀ x, (encs x).size = ps.size)
    (hKt : ∀ {A B C : World}, Kp A B → Kp B C → Kp A C) (hKb : ∀ (W : World) (l : Nat) (o o' : Obj), w.heap.size ≤ l → W.heap[l]? = some o → o.isCells = false → o.isWalk = false → Kp W (W.putObj l o'))
    (I : List α → World → Prop) (Ix : Code → List α → World → Prop) (hI : OwnFrom w.heap.size I) (hIx : ∀ c, OwnFrom w.heap.size (Ix c)) (h0 : I [] w)
    (Ax : List α → α → Act → World → Prop) (hAx : ∀ pre x a', OwnFrom w.heap.size (fun (_ : Unit) W => Ax pre x a' W))
    (hassign : ∀ (l : Nat) (pre : List α) (x : α) (W : World), I pre W → pre ++ [x] <+: T →
      assign.wpIn (F.inRound l) (n - 1 - 1) P (Exit.then (fun a' W' => KeepsFrom w.heap.size W W' ∧ Kp W W' ∧ Ax pre x a' W') (fun _ _ _ => False)) { tmps := (ps.zip (encs x)).foldl (fun t (p, v) => t.setIfInBounds p v) a.tmps, defers := [] } W)
    (hbody : ∀ (l : Nat) (pre : List α) (x : α) (a' : Act) (W : World), pre ++ [x] <+: T → Ax pre x a' W → body.wpIn (F.inRound l) (n - 1 - 1) P (ownPostG w.heap.size Kp I Ix (pre ++ [x]) W) a' W)
    (hdone : ∀ (D : Nat) (W : World), w.heap.size ≤ D → I T W → W.heap[D]? = some (.deferred (some [])) → Q .normal { a with defers := { target := .collected D, args := #[] } :: a.defers } W)
    (hstop : ∀ (D : Nat) (c : Code) (pre : List α) (W : World), w.heap.size ≤ D → pre <+: T → Ix c pre W → W.heap[D]? = some (.deferred (some [])) → c.wpIn F n P Q { a with defers := { target := .collected D, args := #[] } :: a.defers } W) :
    (Code.rangeFunc g ps assign body).wpIn F n P Q a w := by
  refine wpIn_rangeFunc ?_
  intro fn hfn
  rw [hro]
  obtain ⟨rec, hrec⟩ : ∃ rec : LoopState → Option Code → Loop, rec = fun st pe => { state := st, pending := pe, fn, tmps := a.tmps, params := ps, assign, body, defers := w.heap.size } := ⟨_, rfl⟩
  obtain ⟨d, hd⟩ : ∃ d, d = w.heap.size := ⟨_, rfl⟩
  obtain ⟨r, hr⟩ : ∃ r, r = w.heap.size + 1 := ⟨_, rfl⟩
  have hdr : d ≠ r := by omega
  -- what the law itself keeps by it
  obtain ⟨BK, hBK⟩ : ∃ BK : LoopState → Option Code → World → Prop, BK = fun st pe W => W.heap[r]? = some (.loop (rec st pe)) ∧ W.heap[d]? = some (.deferred (some [])) := ⟨_, rfl⟩
  have bkG : ∀ {st : LoopState} {pe : Option Code} {A B : World}, KeepsFrom w.heap.size A B → BK st pe A → BK st pe B := fun hk h => by
    rw [hBK] at h ⊢
    exact ⟨hk.same _ _ (by omega) h.1 rfl, hk.same _ _ (by omega) h.2 rfl⟩
  have bkO : ∀ {st : LoopState} {pe : Option Code} {A B : World} {row : Option Nat}, A.grownBy B row → (∀ k, row = some k → w.heap.size + 2 ≤ k) → BK st pe A → BK st pe B := fun hg hw h => by
    rw [hBK] at h ⊢
    exact ⟨(hg.block _ (Array.getElem?_eq_some_iff.1 h.1).1 (fun e => by have := hw _ e.symm; omega)).trans h.1, (hg.block _ (Array.getElem?_eq_some_iff.1 h.2).1 (fun e => by have := hw _ e.symm; omega)).trans h.2⟩
  have bkP : ∀ {st : LoopState} {pe : Option Code} {st' : LoopState} {pe' : Option Code} {A : World}, BK st pe A → BK st' pe' (A.putObj r (.loop (rec st' pe'))) := fun h => by
    rw [hBK] at h ⊢
    exact ⟨World.putObj_heap_same (Array.getElem?_eq_some_iff.1 h.1).1, (World.putObj_heap_other hdr).trans h.2⟩
  have bkR : ∀ {st : LoopState} {pe : Option Code} {A : World}, BK st pe A → A.heap[r]? = some (.loop (rec st pe)) := fun h => by
    rw [hBK] at h
    exact h.1
  have bkD : ∀ {st : LoopState} {pe : Option Code} {A : World}, BK st pe A → A.heap[d]? = some (.deferred (some [])) := fun h => by
    rw [hBK] at h
    exact h.2
  obtain ⟨W1, hW1⟩ : ∃ W1, (w.alloc (.deferred (some []))).alloc (.loop (rec .ready none)) = W1 := ⟨_, rfl⟩
  have hB1 : BK .ready none W1 := by
    rw [hBK, ← hW1, hr, hd]
    refine ⟨?_, (Below.heap_alloc _ _ _ (by simp)).trans (World.alloc_heap_new w _)⟩
    have := World.alloc_heap_new (w.alloc (.deferred (some []))) (.loop (rec .ready none))
    rwa [World.size_alloc] at this
  have hI1 : I [] W1 := by
    rw [← hW1]
    exact hI.alloc _ (hI.alloc _ h0)
  have hb1 : Below w0.heap.size w0 W1 := by
    rw [← hW1]
    exact hb0.trans ((((Below.refl _ w).alloc (Nat.le_refl _) _).alloc (by simp) _).mono hb0.size)
  have hs1 : w.heap.size + 2 = W1.heap.size := by
    rw [← hW1]
    simp
  refine ⟨w.heap.size + 1, [{ target := .collected w.heap.size, args := #[] }], W1, { target := .fn (.func gf) lb, args := #[.func (.yield (w.heap.size + 1)) #[] #[]] }, W1, gf,
    #[.func (.yield (w.heap.size + 1)) #[] #[]] ++ lb, W1, ?_, ?_, ?_, ?_, fun _ => h1, ?_⟩
  · rw [← hW1, hrec]
    exact run_enterLoop_outer _ _ _ _ _
  · simp only [resolve, hg]
    simp [go_sem]
  · intro f' hf'
    simp [Target.leads] at hf'
    subst hf'
    exact hFg
  · simp [invoke, go_sem, eg]
  rw [← hr]
  refine (hseq r (fun pre W => I pre W ∧ BK .ready none W) (fun pre W => ∃ c, Ix c pre W ∧ BK .done (some c) W) W1 hb1 ?_ ?_ ?_ ⟨hI1, hB1⟩).mono ?_
  · rintro s A B row ⟨hs, hk⟩ hg' hw
    exact ⟨hI s A B row hs hg' fun k e => ⟨by have := (hw k e).1; omega, (hw k e).2⟩, bkO hg' (fun k e => by have := (hw k e).1; omega) hk⟩
  · rintro s A B row ⟨c, hs, hk⟩ hg' hw
    exact ⟨c, hIx c s A B row hs hg' fun k e => ⟨by have := (hw k e).1; omega, (hw k e).2⟩, bkO hg' (fun k e => by have := (hw k e).1; omega) hk⟩
  · rintro pre x W ⟨hi, hk⟩ hx
    have hy := run_yield (P := P) (args := encs x) (bkR hk) (by rw [hrec]; exact hps x)
    rw [hrec] at hy
    refine ⟨fn, _, assign, body, hy, roundIn_of_wpIn hfn (wpIn_mono (hassign r pre x W hi hx) ?_)⟩
    clear hy
    rintro e a' Wa he
    cases e with
    | normal =>
      obtain ⟨hkf, hkp, hax⟩ := he
      have hka := bkG hkf hk
      have hbr := run_beginRound (P := P) (bkR hka) (by rw [hrec])
      refine ⟨_, hbr, ?_⟩
      have ebusy : ({ rec .ready none with state := .busy } : Loop) = rec .busy none := by rw [hrec]
      rw [ebusy]
      have hkb := bkP (st' := .busy) (pe' := none) hka
      have kpt : ∀ (X : World) (o' : Obj), KeepsFrom W1.heap.size X (X.putObj r o') := fun X o' => keepsFrom_put X r o' (by omega)
      have kfb : KeepsFrom W1.heap.size W (Wa.putObj r (.loop (rec .busy none))) := (kf_up hkf (by omega)).trans (kpt _ _)
      have hkp2 : Kp W (Wa.putObj r (.loop (rec .busy none))) := hKt hkp (hKb _ _ _ _ (by omega) (bkR hka) rfl rfl)
      refine wpIn_mono (hbody r pre x a' _ hx ((hAx pre x a').putObj (s := ()) _ hax (by omega) (bkR hka) rfl)) ?_
      have fin : ∀ (jump : Option Code) (W3 : World), KeepsFrom w.heap.size (Wa.putObj r (.loop (rec .busy none))) W3 →
          (Instr.endRound r jump).run P W3 = .ok (.bool jump.isNone) (W3.putObj r (.loop (rec (if jump.isNone then .ready else .done) jump))) ∧ BK .busy none W3 ∧ BK (if jump.isNone then .ready else .done) jump (W3.putObj r (.loop (rec (if jump.isNone then .ready else .done) jump))) := fun jump W3 h3 => by
        have hk3 := bkG h3 hkb
        have h := run_endRound (P := P) jump (r := rec .busy none) (bkR hk3)
        refine ⟨?_, hk3, bkP hk3⟩
        rw [hrec] at h ⊢
        exact h
      rintro e a3 W3 hp
      cases e with
      | normal =>
        obtain ⟨h3, hp3, hi3⟩ := hp
        obtain ⟨he, hk3, hk4⟩ := fin none W3 h3
        exact ⟨_, _, he, .inl ⟨rfl, ⟨hI.putObj _ hi3 (by omega) (bkR hk3) rfl, hk4⟩, hKt (hKt hkp2 hp3) (hKb _ _ _ _ (by omega) (bkR hk3) rfl rfl), (kfb.trans (kf_up h3 (by omega))).trans (kpt _ _)⟩⟩
      | ret =>
        obtain ⟨h3, hi3⟩ := hp
        obtain ⟨he, hk3, hk4⟩ := fin (some .ret) W3 h3
        exact ⟨_, _, he, .inr ⟨rfl, ⟨.ret, (hIx _).putObj _ hi3 (by omega) (bkR hk3) rfl, hk4⟩, (kfb.trans (kf_up h3 (by omega))).trans (kpt _ _)⟩⟩
      | exit id =>
        obtain ⟨h3, hi3⟩ := hp
        obtain ⟨he, hk3, hk4⟩ := fin (some (.exit id)) W3 h3
        exact ⟨_, _, he, .inr ⟨rfl, ⟨.exit id, (hIx _).putObj _ hi3 (by omega) (bkR hk3) rfl, hk4⟩, (kfb.trans (kf_up h3 (by omega))).trans (kpt _ _)⟩⟩
      | goto t =>
        obtain ⟨h3, hi3⟩ := hp
        obtain ⟨he, hk3, hk4⟩ := fin (some (.goto t)) W3 h3
        exact ⟨_, _, he, .inr ⟨rfl, ⟨.goto t, (hIx _).putObj _ hi3 (by omega) (bkR hk3) rfl, hk4⟩, (kfb.trans (kf_up h3 (by omega))).trans (kpt _ _)⟩⟩
      | panic ch => exact hp.elim
      | outgrown => exact hp.elim
    | ret => exact he.elim
    | exit id => exact he.elim
    | goto t => exact he.elim
    | panic ch => exact he.elim
    | outgrown => exact he.elim
  · rintro e W2 ⟨⟨v, rfl⟩, h⟩
    subst hd
    rcases h with ⟨hi, hk⟩ | ⟨pre, hpre, c, hi, hk⟩
    · have h := run_endLoop (P := P) (bkR hk) (by rw [hrec]; simp)
      have q := hdone w.heap.size _ (Nat.le_refl _) (hI.putObj (Obj.loop { rec .ready none with state := .exhausted }) hi (by omega) (bkR hk) rfl) ((World.putObj_heap_other hdr).trans (bkD hk))
      exact ⟨none, _, by rw [hrec] at h ⊢; exact h, q⟩
    · have h := run_endLoop (P := P) (bkR hk) (by rw [hrec]; simp)
      have q := hstop w.heap.size c pre _ (Nat.le_refl _) hpre ((hIx c).putObj (Obj.loop { rec .done (some c) with state := .exhausted }) hi (by omega) (bkR hk) rfl) ((World.putObj_heap_other hdr).trans (bkD hk))
      exact ⟨some c, _, by rw [hrec] at h ⊢; exact h, q⟩
end Go.Proofs.Ythjghofjdcepmaa
