import Derived.BigQuiet
import Derived.Test.YtimcdnbfdkpffaaGreatGm24
import Derived.Test.YtimcdnbfdkpffaaGreatGm26
import Derived.WalkMore
import Derived.Test.YtimcdnbfdkpffaaGreatGm3
import Derived.Test.YtimcdnbfdkpffaaGreatGm25
/- Stage 14: the landed growing table in memory; made, moves, both. -/
namespace Go.Proofs.YtimcdnbfdkpffaaGreat
set_option maxRecDepth 100000
open Go.RowKit Go.Shelf
/-- The landed growing table at p stands for s; its table of now at pn, its next one at px (if it moves). -/
structure PGY (w : World) (p pn px : Nat) (s : Gr) (F Fn Fx : Nat → Prop) : Prop where
  blk : w.heap[p]? = some (.cells #[.int .i64 (s.most : Int), .pointer (some ⟨pn, 0, none⟩), .pointer (if s.mv then some ⟨px, 0, none⟩ else none), .int .i64 (s.at_ : Int)] 131 (0, 0))
  now : PT0 w pn s.now Fn
  next : s.mv = true → PT0 w px s.next Fx
  mem : F p
  subN : ∀ k, Fn k → F k
  subX : s.mv = true → ∀ k, Fx k → F k
  apN : ¬ Fn p
  apX : s.mv = true → ¬ Fx p ∧ ∀ k, Fx k → ¬ Fn k
  old : ∀ k, F k → k < w.heap.size
  may : mayI (s.most : Int) = true
def PG0 (w : World) (p : Nat) (s : Gr) (F : Nat → Prop) : Prop := ∃ pn px Fn Fx, PGY w p pn px s F Fn Fx
theorem pt0_may {w : World} {p : Nat} {s : Tb} {F : Nat → Prop} (h : PT0 w p s F) : mayI (s.n : Int) = true := by
  obtain ⟨g, c, e, h⟩ := h
  exact PTY.may h
theorem pt0_step {w w' : World} {p : Nat} {s : Tb} {F : Nat → Prop} (h : PT0 w p s F) (hb : Below w.heap.size w w') : PT0 w' p s F := footPT0.keep h (Kept.of_below hb fun _ => False) fun _ _ q => q
section
variable {w w' : World} {p pn px : Nat} {s : Gr} {F Fn Fx : Nat → Prop}
theorem PGY.keep {R : Nat → Prop} (h : PGY w p pn px s F Fn Fx) (hk : Kept R w w') (hd : ∀ k, F k → ¬ R k) : PGY w' p pn px s F Fn Fx :=
  ⟨(hk.block p (h.old p h.mem) (hd p h.mem)).trans h.blk, footPT0.keep h.now hk fun k q => hd k (h.subN k q), fun e => footPT0.keep (h.next e) hk fun k q => hd k (h.subX e k q), h.mem, h.subN, h.subX, h.apN, h.apX, fun k hG => Nat.lt_of_lt_of_le (h.old k hG) hk.size, h.may⟩
theorem PGY.step (h : PGY w p pn px s F Fn Fx) (hb : Below w.heap.size w w') : PGY w' p pn px s F Fn Fx := h.keep (Kept.of_below hb fun _ => False) fun _ _ q => q
theorem footPG0 : FootG PG0 := ⟨fun ⟨a, b, c, d, h⟩ hk hd => ⟨a, b, c, d, h.keep hk hd⟩, fun ⟨_, _, _, _, h⟩ => h.old⟩
/-- The next one is another one; the one of now is. -/
theorem PGY.setX (h : PGY w p pn px s F Fn Fx) (hm : s.mv = true) {t : Tb} {Fy : Nat → Prop} (ha : PT0 w' px t Fy) (hx : ExtG Fx Fy w w') : PGY w' p pn px ⟨s.now, t, true, s.most, s.at_⟩ (fun k => F k ∨ w.heap.size ≤ k ∧ k < w'.heap.size) Fn Fy ∧ ExtG F (fun k => F k ∨ w.heap.size ≤ k ∧ k < w'.heap.size) w w' := by
  obtain ⟨a1, a2⟩ := h.apX hm
  have hq := h.blk
  rw [hm] at hq
  have ho := h.old
  have hz := hx.kept.size
  refine ⟨⟨(hx.kept.block p (ho p h.mem) a1).trans hq, footPT0.keep h.now hx.kept fun k hn hg => a2 k hg hn, fun _ => ha, .inl h.mem, fun k hk => .inl (h.subN k hk), fun _ k hk => (hx.sub k hk).imp (h.subX hm k) id, h.apN, fun _ => ⟨fun hk => ?_, fun k hk hn => ?_⟩, fun k hk => ?_, h.may⟩, fun k hk => hk, hx.kept.mono fun k _ hk => h.subX hm k hk⟩
  · rcases hx.sub p hk with r | r
    · exact a1 r
    · have := ho p h.mem
      omega
  · rcases hx.sub k hk with r | r
    · exact a2 k r hn
    · have := ho k (h.subN k hn)
      omega
  · rcases hk with hk | hk
    · have := ho k hk
      omega
    · exact hk.2
theorem PGY.setN (h : PGY w p pn px s F Fn Fx) {t : Tb} {Fy : Nat → Prop} (ha : PT0 w' pn t Fy) (hx : ExtG Fn Fy w w') : PGY w' p pn px ⟨t, s.next, s.mv, s.most, s.at_⟩ (fun k => F k ∨ w.heap.size ≤ k ∧ k < w'.heap.size) Fy Fx ∧ ExtG F (fun k => F k ∨ w.heap.size ≤ k ∧ k < w'.heap.size) w w' := by
  have ho := h.old
  have hz := hx.kept.size
  refine ⟨⟨(hx.kept.block p (ho p h.mem) h.apN).trans h.blk, ha, fun e => footPT0.keep (h.next e) hx.kept fun k hg hn => (h.apX e).2 k hg hn, .inl h.mem, fun k hk => (hx.sub k hk).imp (h.subN k) id, fun e k hk => .inl (h.subX e k hk), fun hk => ?_, fun e => ⟨(h.apX e).1, fun k hk hn => ?_⟩, fun k hk => ?_, h.may⟩, fun k hk => hk, hx.kept.mono fun k _ hk => h.subN k hk⟩
  · rcases hx.sub p hk with r | r
    · exact h.apN r
    · have := ho p h.mem
      omega
  · rcases hx.sub k hn with r | r
    · exact (h.apX e).2 k hk r
    · have := ho k (h.subX e k hk)
      omega
  · rcases hk with hk | hk
    · have := ho k hk
      omega
    · exact hk.2
/-- Fields of its own block stored. -/
theorem PGY.turn (h : PGY w p pn px s F Fn Fx) (hk : Kept (fun k => k = p) w w') {s' : Gr} (hb : w'.heap[p]? = some (.cells #[.int .i64 (s'.most : Int), .pointer (some ⟨pn, 0, none⟩), .pointer (if s'.mv then some ⟨px, 0, none⟩ else none), .int .i64 (s'.at_ : Int)] 131 (0, 0))) (hn : s'.now = s.now) (hm : s'.most = s.most) (hx : s'.mv = true → s.mv = true ∧ s'.next = s.next) : PGY w' p pn px s' F Fn Fx ∧ ExtG F F w w' := by
  refine ⟨⟨hb, by rw [hn]; exact footPT0.keep h.now hk fun k hk e => h.apN (by rw [← e]; exact hk), fun e => ?_, h.mem, h.subN, fun e => h.subX (hx e).1, h.apN, fun e => h.apX (hx e).1, fun k hk' => Nat.lt_of_lt_of_le (h.old k hk') hk.size, by rw [hm]; exact h.may⟩, fun k hk => .inl hk, hk.mono fun k _ e => by rw [e]; exact h.mem⟩
  obtain ⟨e1, e2⟩ := hx e
  rw [e2]
  exact footPT0.keep (h.next e1) hk fun k hk e' => (h.apX e1).1 (by rw [← e']; exact hk)
theorem PGY.ended (h : PGY w p pn px s F Fn Fx) (hm : s.mv = true) (hk : Kept (fun k => k = p) w w') {at' : Nat} (hb : w'.heap[p]? = some (.cells #[.int .i64 (s.most : Int), .pointer (some ⟨px, 0, none⟩), .pointer none, .int .i64 (at' : Int)] 131 (0, 0))) : PGY w' p px px ⟨s.next, s.next, false, s.most, at'⟩ F Fx Fx ∧ ExtG F F w w' := by
  refine ⟨⟨hb, footPT0.keep (h.next hm) hk fun k hk e => (h.apX hm).1 (by rw [← e]; exact hk), fun e => (by cases e), h.mem, h.subX hm, fun e => (by cases e), (h.apX hm).1, fun e => (by cases e), fun k hk' => Nat.lt_of_lt_of_le (h.old k hk') hk.size, h.may⟩, fun k hk => .inl hk, hk.mono fun k _ e => by rw [e]; exact h.mem⟩
end
theorem gmade_c {w : World} {p : Nat} {a : Addr} (h : w.cell? ⟨p, 1, none⟩ = some (.pointer (some a))) : Calls Tryz.prog 84 #[.pointer (some ⟨p, 0, none⟩)] w (ret (.bool true) w) := by
  go_enter Tryz.func84, Tryz.ntmps84
  go_wp2_with fail
  go_ret
  exact ⟨rfl, Below.refl _ _⟩
theorem gmoves_c {w : World} {p : Nat} {a : Addr} {b : Option Addr} (h : w.cell? ⟨p, 1, none⟩ = some (.pointer (some a))) (h2 : w.cell? ⟨p, 2, none⟩ = some (.pointer b)) : Calls Tryz.prog 99 #[.pointer (some ⟨p, 0, none⟩)] w (ret (.bool b.isSome) w) := by
  have HC := Lib.hid (gmade_c h)
  have H2 := Lib.hid h2
  clear h h2
  cases b with
  | none =>
    go_enter Tryz.func99, Tryz.ntmps99
    go_wp2_with (first
      | (go_at_call 84
         refine HC.out.mono ?_
         rintro e u1 ⟨rfl, hb⟩
         obtain ⟨cs, t, fr, hq⟩ := cells_of_cell H2.out
         have x2 : u1.cell? ⟨p, 2, none⟩ = some (.pointer none) := (kept_cell_block (hb.block p (lt_heap' hq))).trans H2.out
         have HB := Lib.hid hb
         clear hb hq))
    go_ret
    exact ⟨rfl, HB.out⟩
  | some b =>
    go_enter Tryz.func99, Tryz.ntmps99
    go_wp2_with (first
      | (go_at_call 84
         refine HC.out.mono ?_
         rintro e u1 ⟨rfl, hb⟩
         obtain ⟨cs, t, fr, hq⟩ := cells_of_cell H2.out
         have x2 : u1.cell? ⟨p, 2, none⟩ = some (.pointer (some b)) := (kept_cell_block (hb.block p (lt_heap' hq))).trans H2.out
         have HB := Lib.hid hb
         clear hb hq))
    go_ret
    exact ⟨rfl, HB.out⟩
/-- One cell of an array or a struct, as a result. -/
theorem results_row0 {P : Program} {fn : Func} {p : Tmp} {ty : TypeId} (h : fn.results = #[.cell p ty]) (tmps : Array Value) (w : World) (g : Nat) (t : TypeId) (cs : Array Value) (fr : Nat × Nat) (d : TypeDesc)
    (hp : tmps.getD p undef = .pointer (some ⟨g, 0, none⟩)) (hg : w.heap[g]? = some (.cells cs t fr))
    (hu : P.underlying ty = some d) (hd : (match d with | .struct _ | .array _ _ => true | _ => false) = true) (hi : (P.info? ty).map (·.size) = some cs.size) :
    (results fn tmps).run P w = .ok (.agg cs) w := by
  have hp' : tmps[p]?.getD undef = .pointer (some ⟨g, 0, none⟩) := by simpa using hp
  simp [results, h, hp', asAddr, run_loadVar_row w g t ty cs fr d hg hu hd hi]
theorem gboth_c {w : World} {p pn : Nat} {b : Option Addr} {mo cu : Value} (h : w.heap[p]? = some (.cells #[mo, .pointer (some ⟨pn, 0, none⟩), .pointer b, cu] 131 (0, 0))) : Calls Tryz.prog 165 #[.pointer (some ⟨p, 0, none⟩)] w (ret (.agg #[.pointer (some ⟨pn, 0, none⟩), .pointer b]) w) := by
  have HC := Lib.hid (fun W (hW : Below w.heap.size w W) => gmade_c (blk_cell ((hW.block p (lt_heap h)).trans h) 1))
  have H := Lib.hid h
  clear h
  have HZ : Hid ((w.alloc (.cells #[.pointer none, .pointer none] 238)).heap[w.heap.size]? = some (.cells #[.pointer none, .pointer none] 238 (0, 0))) := Lib.hid (heap_alloc_new w _)
  have HB : Hid (Below w.heap.size w (w.alloc (.cells #[.pointer none, .pointer none] 238))) := Lib.hid (below_alloc w _)
  obtain ⟨z, hz⟩ : ∃ z, z = w.heap.size := ⟨_, rfl⟩
  have HZB : Hid (w.heap.size ≤ z) := Lib.hid (by omega)
  rw [← hz] at HZ
  go_enter Tryz.func165, Tryz.ntmps165
  go_upto_region 1 with fail
  change Code.wp _ _ _ _ (w.alloc (.cells #[.pointer none, .pointer none] 238))
  rw [← hz]
  clear hz
  generalize w.alloc (.cells #[.pointer none, .pointer none] 238) = w1 at *
  go_upto_region 3 with (first
    | (go_at_call 84
       refine (HC.out _ HB.out).mono ?_
       rintro e u ⟨rfl, hb⟩
       have HBu := Lib.hid (HB.out.trans (hb.mono HB.out.size))
       have HZu : Hid (u.heap[z]? = some (.cells #[.pointer none, .pointer none] 238 (0, 0))) := Lib.hid ((hb.block _ (lt_heap HZ.out)).trans HZ.out)
       have HP : Hid (u.heap[p]? = some (.cells #[mo, .pointer (some ⟨pn, 0, none⟩), .pointer b, cu] 131 (0, 0))) := Lib.hid ((HBu.out.block p (lt_heap H.out)).trans H.out)
       clear hb))
  clear HC HZ HB
  refine wp_region_grow (C := fun W => Below u.heap.size u W) 9 16 [val (.pointer (some ⟨p, 0, none⟩)), val (.pointer (some ⟨p, 0, none⟩)), val (.pointer (some ⟨p, 1, none⟩)), val (.pointer (some ⟨pn, 0, none⟩)), val (.pointer (some ⟨p, 0, none⟩)), val (.pointer (some ⟨p, 0, none⟩)), val (.pointer (some ⟨p, 2, none⟩)), val (.pointer b), val (.agg #[.pointer (some ⟨pn, 0, none⟩), .pointer b])] (by kernel_rfl) rfl (by kernel_rfl) rfl ⟨stb_val _, stb_val _, stb_val _, stb_val _, stb_val _, stb_val _, stb_val _, stb_val _, stb_val _, trivial⟩ (Below.refl _ _).drew ?_ ?_
  · refine each_cons ?_ ?_
    · intro a W hW hd
      have h0 : a.tmps[0]?.getD undef = .pointer (some ⟨p, 0, none⟩) := slot_eq (hd 0 (by decide))
      exact grows_value _ hW (by simp [execOp, Act.eval, h0]) rfl
    refine each_cons ?_ ?_
    · intro a W hW hd
      have h7 : a.tmps[7]?.getD undef = .pointer (some ⟨p, 0, none⟩) := slot_eq (hd 7 (by decide))
      refine grows_value _ hW (?_ : _ = _) rfl
      clear hd
      go_simp
    refine each_cons ?_ ?_
    · intro a W hW hd
      have h8 : a.tmps[8]?.getD undef = .pointer (some ⟨p, 0, none⟩) := slot_eq (hd 8 (by decide))
      refine grows_value _ hW (?_ : _ = _) rfl
      clear hd
      go_simp
    refine each_cons ?_ ?_
    · intro a W hW hd
      have h9 : a.tmps[9]?.getD undef = .pointer (some ⟨p, 1, none⟩) := slot_eq (hd 9 (by decide))
      have yl := blk_cell ((hW.block p (lt_heap HP.out)).trans HP.out) 1
      refine grows_value _ hW (?_ : _ = _) rfl
      clear hd
      go_simp
    refine each_cons ?_ ?_
    · intro a W hW hd
      have h0 : a.tmps[0]?.getD undef = .pointer (some ⟨p, 0, none⟩) := slot_eq (hd 0 (by decide))
      exact grows_value _ hW (by simp [execOp, Act.eval, h0]) rfl
    refine each_cons ?_ ?_
    · intro a W hW hd
      have h11 : a.tmps[11]?.getD undef = .pointer (some ⟨p, 0, none⟩) := slot_eq (hd 11 (by decide))
      refine grows_value _ hW (?_ : _ = _) rfl
      clear hd
      go_simp
    refine each_cons ?_ ?_
    · intro a W hW hd
      have h12 : a.tmps[12]?.getD undef = .pointer (some ⟨p, 0, none⟩) := slot_eq (hd 12 (by decide))
      refine grows_value _ hW (?_ : _ = _) rfl
      clear hd
      go_simp
    refine each_cons ?_ ?_
    · intro a W hW hd
      have h13 : a.tmps[13]?.getD undef = .pointer (some ⟨p, 2, none⟩) := slot_eq (hd 13 (by decide))
      have yl := blk_cell ((hW.block p (lt_heap HP.out)).trans HP.out) 2
      refine grows_value _ hW (?_ : _ = _) rfl
      clear hd
      go_simp
    refine each_cons ?_ ?_
    · intro a W hW hd
      have h10 : a.tmps[10]?.getD undef = .pointer (some ⟨pn, 0, none⟩) := slot_eq (hd 10 (by decide))
      have h14 : a.tmps[14]?.getD undef = .pointer b := slot_eq (hd 14 (by decide))
      have hbd : ∀ W : World, (Instr.build 238 #[(0, .pointer (some ⟨pn, 0, none⟩)), (1, .pointer b)]).run Tryz.prog W = .ok (.agg #[.pointer (some ⟨pn, 0, none⟩), .pointer b]) W := fun _ => by kernel_rfl
      refine grows_value _ hW (?_ : _ = _) rfl
      clear hd
      go_simp
    exact each_nil
  · refine behind_val rfl ?_
    refine behind_val rfl ?_
    refine behind_val rfl ?_
    refine behind_val rfl ?_
    refine behind_val rfl ?_
    refine behind_val rfl ?_
    refine behind_val rfl ?_
    refine behind_val rfl ?_
    refine behind_val rfl ?_
    refine behind_nil fun v hCv hFv => ?_
    simp only [Act.put, List.setIfInBounds_toArray, List.set_cons_succ, List.set_cons_zero, List.drop_succ_cons, List.drop_zero]
    have HZ2 : Hid (v.heap[z]? = some (.cells #[.pointer none, .pointer none] 238 (0, 0))) := Lib.hid ((hCv.block _ (lt_heap HZu.out)).trans HZu.out)
    have HB2 := Lib.hid hCv
    clear hCv hFv
    go_wp2_with (first
      | (refine wpList_store_row rfl 238 (.tmp 2) (.tmp 15) rfl z #[.pointer (some ⟨pn, 0, none⟩), .pointer b] rfl rfl 238 #[.pointer none, .pointer none] HZ2.out (by kernel_rfl) rfl (by simp [Value.oneCell']) ?_))
    refine bodyPost_ret (v := .agg #[.pointer (some ⟨pn, 0, none⟩), .pointer b]) (results_row0 Tryz.results165 _ _ z 238 #[.pointer (some ⟨pn, 0, none⟩), .pointer b] (0, 0) _ rfl (setRow_heap _ z _ #[.pointer (some ⟨pn, 0, none⟩), .pointer b] _ _ HZ2.out) Tryz.underlying238 rfl (by kernel_rfl)) rfl ?_
    exact ⟨rfl, below_setRow (HBu.out.trans (HB2.out.mono HBu.out.size)) HZB.out _⟩
end Go.Proofs.YtimcdnbfdkpffaaGreat
/- Stage 14: the landed growing table: Left, Places, Entries, Marks. -/
namespace Go.Proofs.YtimcdnbfdkpffaaGreat
set_option maxRecDepth 100000
open Go.RowKit Go.Shelf
section
variable {w w' : World} {p pn px : Nat} {s : Gr} {F Fn Fx : Nat → Prop}
theorem PGY.moves (h : PGY w p pn px s F Fn Fx) : Calls Tryz.prog 99 #[.pointer (some ⟨p, 0, none⟩)] w (ret (.bool s.mv) w) := by
  have h1 := gmoves_c (blk_cell h.blk 1) (blk_cell h.blk 2)
  have e : (if s.mv then some (⟨px, 0, none⟩ : Addr) else none).isSome = s.mv := by cases s.mv <;> rfl
  rwa [e] at h1
theorem PGY.made (h : PGY w p pn px s F Fn Fx) : Calls Tryz.prog 84 #[.pointer (some ⟨p, 0, none⟩)] w (ret (.bool true) w) := gmade_c (blk_cell h.blk 1)
theorem PGY.both (h : PGY w p pn px s F Fn Fx) : Calls Tryz.prog 165 #[.pointer (some ⟨p, 0, none⟩)] w (ret (.agg #[.pointer (some ⟨pn, 0, none⟩), .pointer (if s.mv then some ⟨px, 0, none⟩ else none)]) w) := gboth_c h.blk
theorem gleft_any (h : PGY w p pn px s F Fn Fx) (hs : s.Ok) : Calls Tryz.prog 57 #[.pointer (some ⟨p, 0, none⟩)] w (ret (.int .i64 (s.left : Int)) w) := by
  have HM := Lib.hid h.moves
  have HPL := Lib.hid fun W (k : Below w.heap.size w W) => tabP.places (pt0_step h.now k) hs.now
  have HQ := Lib.hid h.blk
  cases hmv : s.mv with
  | false =>
    have HL : Hid (s.left = 0) := Lib.hid (by unfold Gr.left; rw [hmv, if_neg Bool.false_ne_true])
    rw [hmv] at HM
    clear h hs hmv
    go_enter Tryz.func57, Tryz.ntmps57
    go_wp2_with (first
      | (go_at_call 99
         refine HM.out.mono ?_
         rintro e u1 ⟨rfl, hb⟩
         have HB := Lib.hid hb
         clear hb))
    go_ret
    exact ⟨by rw [HL.out]; rfl, HB.out⟩
  | true =>
    have hc := hs.cur hmv
    have ht := hs.now.top
    obtain ⟨n, hn⟩ : ∃ n, n = s.now.n := ⟨_, rfl⟩
    obtain ⟨m, hm⟩ : ∃ m, m = s.at_ := ⟨_, rfl⟩
    have HL : Hid (s.left = n - m) := Lib.hid (by unfold Gr.left; rw [hmv, if_pos rfl, hn, hm])
    rw [← hn, ← hm] at hc
    rw [← hn] at HPL ht
    rw [← hm] at HQ
    rw [hmv] at HM
    have HV := Lib.hid hmv
    have zw : IntKind.i64.wrap ((n : Int) - (m : Int)) = (n : Int) - (m : Int) := by rw [IntKind.wrap_i64]; omega
    have HE : Hid (((n - m : Nat) : Int) = (n : Int) - (m : Int)) := Lib.hid (by omega)
    clear h hs hmv hn hm hc ht
    go_enter Tryz.func57, Tryz.ntmps57
    go_upto_region 3 with (first
      | (go_at_call 99
         refine HM.out.mono ?_
         rintro e u1 ⟨rfl, hb⟩
         have HB := Lib.hid hb
         have hq := (hb.block p (lt_heap HQ.out)).trans HQ.out
         have q1 : ∀ W : Stay u1, W.w.cell? ⟨p, 1, none⟩ = some (.pointer (some ⟨pn, 0, none⟩)) := fun W => Stay.cell (blk_cell hq 1) W
         have q3 : ∀ W : Stay u1, W.w.cell? ⟨p, 3, none⟩ = some (.int .i64 (m : Int)) := fun W => Stay.cell (blk_cell hq 3) W
         have HP1 := Lib.hid fun W (k : Below u1.heap.size u1 W) => HPL.out W (HB.out.trans (k.mono HB.out.size))
         clear hb hq))
    refine wp_region_stay (by kernel_rfl) (by kernel_rfl) ?_
    repeat (go_big_quiet_step (first | (go_at_call 103; with_reducible exact Calls.stay _ (HP1.out _ (Stay.below _)))))
    refine wpQuiet_nil ?_
    intro w' hw'
    obtain ⟨W, rfl⟩ := hw'
    have HB2 := Lib.hid W.below
    clear q1 q3
    go_wp2_with fail
    go_ret
    exact ⟨by rw [HL.out, HE.out]; rfl, HB.out.trans (HB2.out.mono HB.out.size)⟩
end
section
variable {w w' : World} {p pn px : Nat} {s : Gr} {F Fn Fx : Nat → Prop}
end
end Go.Proofs.YtimcdnbfdkpffaaGreat
/- Stage 14: the landed growing table: seek, Find, Drop. -/
namespace Go.Proofs.YtimcdnbfdkpffaaGreat
set_option maxRecDepth 100000
open Go.RowKit Go.Shelf
theorem gseek_1 {w : World} {pa a b : Option Addr} {h k : Int} {f : Value} {K : World → Prop} (hc : Calls Tryz.prog 165 #[.pointer pa] w (ret (.agg #[.pointer a, .pointer b]) w))
    (ha : ∀ W, Below w.heap.size w W → Calls Tryz.prog 166 #[.pointer a, .int .u64 h, f] W fun e w' => e = .returned (.tuple #[.int .i64 k, .bool true]) ∧ K w') :
    Calls Tryz.prog 134 #[.pointer pa, .int .u64 h, f] w fun e w' => e = .returned (.tuple #[.pointer a, .int .i64 k, .bool true]) ∧ K w' := by
  have HC := Lib.hid hc
  have HA := Lib.hid ha
  clear hc ha
  go_enter Tryz.func134, Tryz.ntmps134
  have i0 : ∀ W : World, (Instr.index 238 (.agg #[.pointer a, .pointer b]) (.int .i64 0)).run Tryz.prog W = .ok (.pointer a) W := fun _ => by kernel_rfl
  have i1 : ∀ W : World, (Instr.index 238 (.agg #[.pointer a, .pointer b]) (.int .i64 1)).run Tryz.prog W = .ok (.pointer b) W := fun _ => by kernel_rfl
  go_wp2
  go_step3
  go_wp2
  go_step3
  go_wp2_with (first
    | (go_at_call 165
       refine HC.out.mono ?_
       rintro e u1 ⟨rfl, hb⟩
       have HB1 := Lib.hid hb
       clear hb))

  refine wp_loop_rounds 3 ?_
  rw [rounds_succ]
  go_wp2_with (first
    | (go_at_call 166
       refine (HA.out u1 HB1.out).mono ?_
       rintro e u2 ⟨rfl, hk⟩
       have HK := Lib.hid hk
       clear hk))
  rw [Exit.noGoto_ret]
  refine bodyPost_ret (results_tmp3 rfl _ _ _) rfl ?_
  exact ⟨rfl, HK.out⟩
theorem gseek_2 {w : World} {pa a b : Option Addr} {h k0 k : Int} {r : Bool} {f : Value} {M K : World → Prop} (hc : Calls Tryz.prog 165 #[.pointer pa] w (ret (.agg #[.pointer a, .pointer b]) w))
    (ha : ∀ W, Below w.heap.size w W → Calls Tryz.prog 166 #[.pointer a, .int .u64 h, f] W fun e w' => e = .returned (.tuple #[.int .i64 k0, .bool false]) ∧ M w')
    (hb : ∀ W, M W → Calls Tryz.prog 166 #[.pointer b, .int .u64 h, f] W fun e w' => e = .returned (.tuple #[.int .i64 k, .bool r]) ∧ K w') :
    Calls Tryz.prog 134 #[.pointer pa, .int .u64 h, f] w fun e w' => e = .returned (.tuple #[.pointer b, .int .i64 k, .bool r]) ∧ K w' := by
  have HC := Lib.hid hc
  have HA := Lib.hid ha
  have HBB := Lib.hid hb
  clear hc ha hb
  go_enter Tryz.func134, Tryz.ntmps134
  have i0 : ∀ W : World, (Instr.index 238 (.agg #[.pointer a, .pointer b]) (.int .i64 0)).run Tryz.prog W = .ok (.pointer a) W := fun _ => by kernel_rfl
  have i1 : ∀ W : World, (Instr.index 238 (.agg #[.pointer a, .pointer b]) (.int .i64 1)).run Tryz.prog W = .ok (.pointer b) W := fun _ => by kernel_rfl
  go_wp2
  go_step3
  go_wp2
  go_step3
  go_wp2_with (first
    | (go_at_call 165
       refine HC.out.mono ?_
       rintro e u1 ⟨rfl, hb⟩
       have HB1 := Lib.hid hb
       clear hb))

  refine wp_loop_rounds 3 ?_
  rw [rounds_succ]
  go_wp2_with (first
    | (go_at_call 166
       refine (HA.out u1 HB1.out).mono ?_
       rintro e u2 ⟨rfl, hk⟩
       have HK := Lib.hid hk
       clear hk))
  rw [rounds_succ]
  cases r with
  | true =>
    go_wp2_with (first
      | (go_at_call 166
         refine (HBB.out u2 HK.out).mono ?_
         rintro e u3 ⟨rfl, hk⟩
         have HK3 := Lib.hid hk
         clear hk))
    rw [Exit.noGoto_ret]
    refine bodyPost_ret (results_tmp3 rfl _ _ _) rfl ?_
    exact ⟨rfl, HK3.out⟩
  | false =>
    go_wp2_with (first
      | (go_at_call 166
         refine (HBB.out u2 HK.out).mono ?_
         rintro e u3 ⟨rfl, hk⟩
         have HK3 := Lib.hid hk
         clear hk))
    rw [rounds_succ]
    go_wp2
    rw [Exit.noGoto_ret]
    refine bodyPost_ret (results_tmp3 rfl _ _ _) rfl ?_
    exact ⟨rfl, HK3.out⟩
theorem gfind_walk {w : World} {pa q : Option Addr} {fid : FuncId} {cap : Array Value} {H k : Int} {z : Nat} {r : Bool} {K : World → Prop}
    (hsk : Calls Tryz.prog 134 #[.pointer pa, .int .u64 H, .func (.func 135) #[] #[.pointer (some ⟨w.heap.size + 1, 0, none⟩), .pointer (some ⟨w.heap.size, 0, none⟩)]] ((w.alloc (.cells #[.func (.func fid) #[] cap] 166)).alloc (.cells #[.int .u32 0] 22)) fun e w' => e = .returned (.tuple #[.pointer q, .int .i64 k, .bool r]) ∧ (r = true → w'.heap[w.heap.size + 1]? = some (.cells #[.int .u32 (z : Int)] 22 (0, 0))) ∧ K w') :
    Calls Tryz.prog 87 #[.pointer pa, .int .u64 H, .func (.func fid) #[] cap] w fun e w' => e = .returned (.tuple (if r then #[.int .u32 (z : Int), .bool true] else #[.int .u32 0, .bool false])) ∧ K w' := by
  have HSK := Lib.hid hsk
  clear hsk
  have hnil : ∀ W : World, (binOp .eql 166 (.func (.func fid) #[] cap) .nilFunc).run Tryz.prog W = .ok (.bool false) W := fun _ => by kernel_rfl
  have hld : (w.alloc (.cells #[.func (.func fid) #[] cap] 166)).cell? ⟨w.heap.size, 0, none⟩ = some (.func (.func fid) #[] cap) := blk_cell (heap_alloc_new w _) 0
  have hz : (w.alloc (.cells #[.func (.func fid) #[] cap] 166)).heap.size = w.heap.size + 1 := by simp
  go_enter Tryz.func87, Tryz.ntmps87
  cases r with
  | true =>
    go_wp2_with (first
      | (go_at_call 134
         refine HSK.out.mono ?_
         rintro e u ⟨rfl, hc, hk⟩
         have x8 : u.cell? ⟨w.heap.size + 1, 0, none⟩ = some (.int .u32 (z : Int)) := blk_cell (hc rfl) 0
         have HK := Lib.hid hk
         clear hk hc hnil hld))
    go_ret2
    exact ⟨rfl, HK.out⟩
  | false =>
    go_wp2_with (first
      | (go_at_call 134
         refine HSK.out.mono ?_
         rintro e u ⟨rfl, hc, hk⟩
         have HK := Lib.hid hk
         clear hk hc hnil hld))
    go_ret2
    exact ⟨rfl, HK.out⟩
theorem askL_last {ans : Nat → Bool} {f : Nat → Nat} {k : Nat} : ∀ {l : List Nat}, l.find? (fun x => ans (f x)) = some k → (askL ans (l.map f)).getLast? = some (f k)
  | [], h => by cases h
  | x :: r, h => by
    show (if ans (f x) then [f x] else f x :: askL ans (r.map f)).getLast? = _
    rw [List.find?_cons] at h
    cases e : ans (f x) with
    | true =>
      rw [e] at h
      injection h with h
      rw [if_pos rfl, h]
      rfl
    | false =>
      rw [e] at h
      rw [if_neg Bool.false_ne_true, List.getLast?_cons, askL_last h]
      rfl
theorem fnL_last {s : Tb} {h k : Nat} {ans : Nat → Bool} (e : s.fn h ans = some k) : (s.fnL h ans).getLast? = some (s.ew k) := askL_last e
/-- What the asking function keeps: the function that came in, and the number that was asked last. -/
structure AskJ (J : World → Prop) (f : Value) (b5 b8 : Nat) (l : List Nat) (W : World) : Prop where
  in_ : J W
  fn : W.heap[b5]? = some (.cells #[f] 166 (0, 0))
  last : ∃ z : Nat, W.heap[b8]? = some (.cells #[.int .u32 (z : Int)] 22 (0, 0)) ∧ ∀ y, l.getLast? = some y → z = y
theorem AskJ.anew {J : World → Prop} {f : Value} {b5 b8 : Nat} {l : List Nat} {W : World} (h : AskJ J f b5 b8 l W) : AskJ J f b5 b8 [] W := by
  obtain ⟨z, hz, _⟩ := h.last
  exact ⟨h.in_, h.fn, z, hz, fun y e => (by cases e)⟩
theorem ask_ok {fid : FuncId} {cap : Array Value} {ans : Nat → Bool} {Q : Nat → Prop} {B B' b5 b8 : Nat} {J : World → Prop} (HA : ∀ T, (∀ x, x ∈ T → Q x) → AsksG fid cap ans (fun _ => False) B T (fun _ => J)) (hB : B ≤ B') (h5 : b5 < B') (h8 : b8 < B') (h58 : b5 ≠ b8) (hB8 : B ≤ b8) (T : List Nat) (hT : ∀ x, x ∈ T → Q x) :
    AsksG 135 #[.pointer (some ⟨b8, 0, none⟩), .pointer (some ⟨b5, 0, none⟩)] ans (fun k => k = b8) B' T (AskJ J (.func (.func fid) #[] cap) b5 b8) := by
  have h0 : ∀ x, x ∈ ([] : List Nat) → Q x := fun x h => (by cases h)
  refine ⟨fun _ _ => by kernel_rfl, fun l W W' h hk => ?_, fun l x W h hx hp hW => ?_⟩
  · obtain ⟨z, hz, hl⟩ := h.last
    exact ⟨(HA [] h0).stay [] _ _ h.in_ (hk.mono fun k _ q => Nat.le_trans hB q), (hk.block b5 (lt_heap h.fn) (by omega)).trans h.fn, z, (hk.block b8 (lt_heap hz) (by omega)).trans hz, hl⟩
  · obtain ⟨z, hz, _⟩ := h.last
    have x8 := blk_cell hz 0
    have y8 := blk_free hz 0
    have hZ8 : (W.setCell ⟨b8, 0, none⟩ (.int .u32 (x : Int))).heap[b8]? = some (.cells #[.int .u32 (x : Int)] 22 (0, 0)) := blk_set hz 0 _
    have hK8 : Kept (fun k => k = b8) W (W.setCell ⟨b8, 0, none⟩ (.int .u32 (x : Int))) := (Kept.refl (fun k => k = b8) W).setCell (p := ⟨b8, 0, none⟩) (.inl rfl) _
    have hJ8 : J (W.setCell ⟨b8, 0, none⟩ (.int .u32 (x : Int))) := (HA [] h0).stay [] _ _ h.in_ (hK8.mono fun k _ q => by have q : k = b8 := q; omega)
    have h5' : (W.setCell ⟨b8, 0, none⟩ (.int .u32 (x : Int))).heap[b5]? = some (.cells #[.func (.func fid) #[] cap] 166 (0, 0)) := (hK8.block b5 (lt_heap h.fn) h58).trans h.fn
    have HC := Lib.hid ((HA [x] fun y hy => by rw [List.mem_singleton.1 hy]; exact hT x (hp.subset (List.mem_append_right _ (List.mem_singleton.2 rfl)))).call [] x _ hJ8 hx List.prefix_rfl (by have := hK8.size; omega))
    have hcf := (HA [] h0).eg (#[.int .u32 (x : Int)] ++ cap) (W.setCell ⟨b8, 0, none⟩ (.int .u32 (x : Int)))
    have x5 := blk_cell h5' 0
    have H5 := Lib.hid h5'
    have H8 := Lib.hid hZ8
    have HK8 := Lib.hid hK8
    clear h hz hJ8 h5' hZ8 hK8 hp hT h0 HA
    show Calls Tryz.prog 135 #[.int .u32 (x : Int), .pointer (some ⟨b8, 0, none⟩), .pointer (some ⟨b5, 0, none⟩)] W _
    go_enter Tryz.func135, Tryz.ntmps135
    go_wp2_with (first
      | (refine HC.out.mono ?_
         rintro e u ⟨rfl, hj, hk⟩
         have HJ := Lib.hid hj
         have HK := Lib.hid hk
         clear hj hk))
    go_ret
    refine ⟨rfl, ⟨HJ.out, (HK.out.block b5 (lt_heap H5.out) fun q => q).trans H5.out, x, (HK.out.block b8 (lt_heap H8.out) fun q => q).trans H8.out, fun y e => ?_⟩, HK8.out.trans HK.out fun _ _ q => q.elim⟩
    rw [List.getLast?_append] at e
    injection e with e
section
variable {w w' : World} {p pn px : Nat} {s : Gr} {F Fn Fx : Nat → Prop}
/-- One table asked. -/
theorem tfind_k {W : World} {q : Nat} {t : Tb} {G : Nat → Prop} (h : PT0 W q t G) (ht : t.Ok) {H : Nat} (hH : H < 18446744073709551616) {fid : FuncId} {cap : Array Value} {ans : Nat → Bool} {Q : Nat → Prop} {B b5 b8 : Nat} {J : World → Prop} (HA : ∀ T, (∀ x, x ∈ T → Q x) → AsksG fid cap ans (fun _ => False) B T (fun _ => J)) (hT : ∀ x, x ∈ (t.way H).map t.ew → Q x) (hB : B ≤ b8) (h5 : b5 < b8) (hG : ¬ G b8) (hJ : AskJ J (.func (.func fid) #[] cap) b5 b8 [] W) :
    Calls Tryz.prog 166 #[.pointer (some ⟨q, 0, none⟩), .int .u64 (H : Int), .func (.func 135) #[] #[.pointer (some ⟨b8, 0, none⟩), .pointer (some ⟨b5, 0, none⟩)]] W fun e w' => e = .returned (.tuple (t.fnV H ans)) ∧ AskJ J (.func (.func fid) #[] cap) b5 b8 (t.fnL H ans) w' ∧ Kept (fun k => k = b8) W w' := by
  obtain ⟨z, hz, _⟩ := hJ.last
  have hl := lt_heap hz
  exact tabP.find h ht H hH _ _ ans _ (ask_ok HA (by omega) (by omega) hl (by omega) hB _ hT) (fun k e => by rw [e]; exact ⟨hl, hG⟩) hJ
/-- Numbers of the table alone are asked: those of Q. -/
theorem gfind_q (h : PGY w p pn px s F Fn Fx) (hs : s.Ok) (H : Nat) (hH : H < 18446744073709551616) (fid : FuncId) (cap : Array Value) (ans : Nat → Bool) (Q : Nat → Prop) (hQ : ∀ x, x ∈ (s.now.way H).map s.now.ew → Q x) (hQ' : s.mv = true → ∀ x, x ∈ (s.next.way H).map s.next.ew → Q x) (J : World → Prop) (HA : ∀ T, (∀ x, x ∈ T → Q x) → AsksG fid cap ans (fun _ => False) w.heap.size T (fun _ => J)) (hJ : J w) :
    Calls Tryz.prog 87 #[.pointer (some ⟨p, 0, none⟩), .int .u64 (H : Int), .func (.func fid) #[] cap] w fun e w' => e = .returned (.tuple (s.gnV H ans)) ∧ J w' ∧ Kept (fun _ => False) w w' := by
  have h0 : ∀ x, x ∈ ([] : List Nat) → Q x := fun x h => (by cases h)
  have hb1 := below_alloc w (.cells #[.func (.func fid) #[] cap] 166)
  have hb2 := hb1.alloc hb1.size (.cells #[.int .u32 0] 22)
  have hz1 : (w.alloc (.cells #[.func (.func fid) #[] cap] 166)).heap.size = w.heap.size + 1 := by simp
  have hz2 : ((w.alloc (.cells #[.func (.func fid) #[] cap] 166)).alloc (.cells #[.int .u32 0] 22)).heap.size = w.heap.size + 2 := by simp
  have h5 : ((w.alloc (.cells #[.func (.func fid) #[] cap] 166)).alloc (.cells #[.int .u32 0] 22)).heap[w.heap.size]? = some (.cells #[.func (.func fid) #[] cap] 166 (0, 0)) := blk_old (heap_alloc_new w _) _
  have h8 : ((w.alloc (.cells #[.func (.func fid) #[] cap] 166)).alloc (.cells #[.int .u32 0] 22)).heap[w.heap.size + 1]? = some (.cells #[.int .u32 0] 22 (0, 0)) := by
    have := heap_alloc_new (w.alloc (.cells #[.func (.func fid) #[] cap] 166)) (.cells #[.int .u32 0] 22)
    rwa [hz1] at this
  have hJ2 : AskJ J (.func (.func fid) #[] cap) w.heap.size (w.heap.size + 1) [] ((w.alloc (.cells #[.func (.func fid) #[] cap] 166)).alloc (.cells #[.int .u32 0] 22)) := ⟨(HA [] h0).stay [] _ _ hJ (Kept.of_below hb2 _), h5, 0, h8, fun y e => (by cases e)⟩
  have hw2 := fun (q : Option Addr) (k : Int) (z : Nat) (r : Bool) => gfind_walk (w := w) (q := q) (k := k) (z := z) (r := r) (pa := some ⟨p, 0, none⟩) (fid := fid) (cap := cap) (H := (H : Int)) (K := fun w' => J w' ∧ Kept (fun _ => False) w w')
  revert hw2
  generalize ((w.alloc (.cells #[.func (.func fid) #[] cap] 166)).alloc (.cells #[.int .u32 0] 22)) = u at *
  intro hw2
  have hpu := h.step hb2
  have hFn8 : ¬ Fn (w.heap.size + 1) := fun q => by
    have := h.old _ (h.subN _ q)
    omega
  have fin : ∀ {l : List Nat} {W' : World} {W : World}, Below u.heap.size u W → AskJ J (.func (.func fid) #[] cap) w.heap.size (w.heap.size + 1) l W' → Kept (fun k => k = w.heap.size + 1) W W' → J W' ∧ Kept (fun _ => False) w W' := fun hW hJ' hk => by
    have q1 := hb2.trans (hW.mono hb2.size)
    exact ⟨hJ'.in_, Kept.of_below (q1.trans (hk.below q1.size fun k e => by have e : k = w.heap.size + 1 := e; omega)) _⟩
  have hF1 : ∀ W, Below u.heap.size u W → Calls Tryz.prog 166 #[.pointer (some ⟨pn, 0, none⟩), .int .u64 (H : Int), .func (.func 135) #[] #[.pointer (some ⟨w.heap.size + 1, 0, none⟩), .pointer (some ⟨w.heap.size, 0, none⟩)]] W fun e w' => e = .returned (.tuple (s.now.fnV H ans)) ∧ AskJ J (.func (.func fid) #[] cap) w.heap.size (w.heap.size + 1) (s.now.fnL H ans) w' ∧ Kept (fun k => k = w.heap.size + 1) W w' := fun W hW => by
    refine tfind_k (pt0_step hpu.now hW) hs.now hH HA hQ (by omega) (by omega) hFn8 ?_
    exact ⟨(HA [] h0).stay [] _ _ hJ2.in_ (Kept.of_below hW _ |>.mono fun k _ q => q), (hW.block _ (lt_heap h5)).trans h5, 0, (hW.block _ (lt_heap h8)).trans h8, fun y e => (by cases e)⟩
  unfold Gr.gnV Gr.gn
  cases e1 : s.now.fn H ans with
  | some k =>
    refine (hw2 (some ⟨pn, 0, none⟩) ((k : Int)) (s.now.ew k) true (gseek_1 hpu.both fun W hW => (hF1 W hW).mono ?_)).mono fun e w' hh => ⟨hh.1, hh.2⟩
    rintro e w' ⟨rfl, hj, hk⟩
    refine ⟨by unfold Tb.fnV; rw [e1], fun _ => ?_, fin hW hj hk⟩
    obtain ⟨z, hz, hl⟩ := hj.last
    rw [← hl _ (fnL_last e1)]
    exact hz
  | none =>
    have hF1' : ∀ W, Below u.heap.size u W → Calls Tryz.prog 166 #[.pointer (some ⟨pn, 0, none⟩), .int .u64 (H : Int), .func (.func 135) #[] #[.pointer (some ⟨w.heap.size + 1, 0, none⟩), .pointer (some ⟨w.heap.size, 0, none⟩)]] W fun e w' => e = .returned (.tuple #[.int .i64 0, .bool false]) ∧ (Below w.heap.size w w' ∧ Kept (fun k => k = w.heap.size + 1) u w' ∧ AskJ J (.func (.func fid) #[] cap) w.heap.size (w.heap.size + 1) [] w') := fun W hW => by
      refine (hF1 W hW).mono ?_
      rintro e w' ⟨rfl, hj, hk⟩
      have q1 := hb2.trans (hW.mono hb2.size)
      refine ⟨by unfold Tb.fnV; rw [e1], q1.trans (hk.below q1.size fun k e => by have e : k = w.heap.size + 1 := e; omega), (Kept.of_below hW (fun k => k = w.heap.size + 1)).trans hk fun _ _ q => q, hj.anew⟩
    cases hm : s.mv with
    | true =>
      have hFx8 : ¬ Fx (w.heap.size + 1) := fun q => by
        have := h.old _ (h.subX hm _ q)
        omega
      have hbo := hpu.both
      rw [hm, if_pos rfl] at hbo
      have hF2 : ∀ W, (Below w.heap.size w W ∧ Kept (fun k => k = w.heap.size + 1) u W ∧ AskJ J (.func (.func fid) #[] cap) w.heap.size (w.heap.size + 1) [] W) → Calls Tryz.prog 166 #[.pointer (some ⟨px, 0, none⟩), .int .u64 (H : Int), .func (.func 135) #[] #[.pointer (some ⟨w.heap.size + 1, 0, none⟩), .pointer (some ⟨w.heap.size, 0, none⟩)]] W fun e w' => e = .returned (.tuple (s.next.fnV H ans)) ∧ AskJ J (.func (.func fid) #[] cap) w.heap.size (w.heap.size + 1) (s.next.fnL H ans) w' ∧ J w' ∧ Kept (fun _ => False) w w' := fun W ⟨hb, hk, hj⟩ => by
        refine (tfind_k (footPT0.keep (hpu.next hm) hk fun k hk' e => hFx8 (by rw [← show k = w.heap.size + 1 from e]; exact hk')) (hs.next hm) hH HA (hQ' hm) (by omega) (by omega) hFx8 hj).mono ?_
        rintro e w' ⟨rfl, hj', hk'⟩
        exact ⟨rfl, hj', hj'.in_, Kept.of_below (hb.trans (hk'.below hb.size fun k e => by have e : k = w.heap.size + 1 := e; omega)) _⟩
      rw [if_pos rfl]
      cases e2 : s.next.fn H ans with
      | some k =>
        refine (hw2 (some ⟨px, 0, none⟩) ((k : Int)) (s.next.ew k) true (gseek_2 hbo hF1' fun W hW => (hF2 W hW).mono ?_)).mono fun e w' hh => ⟨hh.1, hh.2⟩
        rintro e w' ⟨rfl, hj, hk⟩
        refine ⟨by unfold Tb.fnV; rw [e2], fun _ => ?_, hk⟩
        obtain ⟨z, hz, hl⟩ := hj.last
        rw [← hl _ (fnL_last e2)]
        exact hz
      | none =>
        refine (hw2 (some ⟨px, 0, none⟩) (0) (0) false (gseek_2 hbo hF1' fun W hW => (hF2 W hW).mono ?_)).mono fun e w' hh => ⟨hh.1, hh.2⟩
        rintro e w' ⟨rfl, hj, hk⟩
        exact ⟨by unfold Tb.fnV; rw [e2], fun e => (by cases e), hk⟩
    | false =>
      have hbo := hpu.both
      rw [hm, if_neg Bool.false_ne_true] at hbo
      rw [if_neg Bool.false_ne_true]
      refine (hw2 (none) (0) (0) false (gseek_2 hbo hF1' fun W hW => (tfind_un (fun W' _ => tmade_un (.inl rfl)) H _ _).mono ?_)).mono fun e w' hh => ⟨hh.1, hh.2⟩
      rintro e w' ⟨rfl, hb⟩
      have q2 := hW.1.trans (hb.mono hW.1.size)
      exact ⟨rfl, fun e => (by cases e), (HA [] h0).stay [] _ _ hW.2.2.in_ (Kept.of_below hb _ |>.mono fun k _ q => q), Kept.of_below q2 _⟩
theorem gfind_any (h : PGY w p pn px s F Fn Fx) (hs : s.Ok) (H : Nat) (hH : H < 18446744073709551616) (fid : FuncId) (cap : Array Value) (ans : Nat → Bool) (J : World → Prop) (HA : ∀ T, AsksG fid cap ans (fun _ => False) w.heap.size T (fun _ => J)) (hJ : J w) :
    Calls Tryz.prog 87 #[.pointer (some ⟨p, 0, none⟩), .int .u64 (H : Int), .func (.func fid) #[] cap] w fun e w' => e = .returned (.tuple (s.gnV H ans)) ∧ J w' ∧ Kept (fun _ => False) w w' :=
  gfind_q h hs H hH fid cap ans (fun _ => True) (fun _ _ => trivial) (fun _ _ _ => trivial) J (fun T _ => HA T) hJ
end
end Go.Proofs.YtimcdnbfdkpffaaGreat
/- Stage 14: the landed growing table: Drop. -/
namespace Go.Proofs.YtimcdnbfdkpffaaGreat
set_option maxRecDepth 100000
open Go.RowKit Go.Shelf
theorem gdrop_none {w : World} {pa q : Option Addr} {H X : Nat} {k : Int} {K : World → Prop} (hc : ∀ W, Below w.heap.size w W → Calls Tryz.prog 84 #[.pointer pa] W (ret (.bool true) W))
    (hsk : ∀ W, Below (w.alloc (.cells #[.int .u64 (H : Int), .int .u32 (X : Int)] 99)).heap.size (w.alloc (.cells #[.int .u64 (H : Int), .int .u32 (X : Int)] 99)) W → Calls Tryz.prog 134 #[.pointer pa, .int .u64 (H : Int), .func (.func 140) #[] #[.pointer (some ⟨w.heap.size, 0, none⟩)]] W fun e w' => e = .returned (.tuple #[.pointer q, .int .i64 k, .bool false]) ∧ K w') :
    Calls Tryz.prog 92 #[.pointer pa, .agg #[.int .u64 (H : Int), .int .u32 (X : Int)]] w fun e w' => e = .returned (.int .i64 7) ∧ K w' := by
  have HC := Lib.hid hc
  have HSK := Lib.hid hsk
  have HB0 : Hid (Below w.heap.size w (w.alloc (.cells #[.int .u64 (H : Int), .int .u32 (X : Int)] 99))) := Lib.hid (below_alloc w _)
  have HE0 : Hid ((w.alloc (.cells #[.int .u64 (H : Int), .int .u32 (X : Int)] 99)).heap[w.heap.size]? = some (.cells #[.int .u64 (H : Int), .int .u32 (X : Int)] 99 (0, 0))) := Lib.hid (heap_alloc_new w _)
  clear hc hsk
  obtain ⟨b, hb⟩ : ∃ b, b = w.heap.size := ⟨_, rfl⟩
  rw [← hb] at HE0 HSK
  go_enter Tryz.func92, Tryz.ntmps92
  go_upto_region 1 with fail
  change Code.wp _ _ _ _ (w.alloc (.cells #[.int .u64 (H : Int), .int .u32 (X : Int)] 99))
  rw [← hb]
  clear hb
  generalize (w.alloc (.cells #[.int .u64 (H : Int), .int .u32 (X : Int)] 99)) = u0 at *
  go_wp2_with (first
    | (go_at_call 84
       refine (HC.out u0 HB0.out).mono ?_
       rintro e u1 ⟨rfl, hb⟩
       have HB1 := Lib.hid hb
       have x0 : u1.cell? ⟨b, 0, none⟩ = some (.int .u64 (H : Int)) := blk_cell ((hb.block b (lt_heap HE0.out)).trans HE0.out) 0
       clear hb)
    | (go_at_call 134
       refine (HSK.out u1 HB1.out).mono ?_
       rintro e u2 ⟨rfl, hk⟩
       have HK := Lib.hid hk
       clear hk x0))
  go_ret
  exact ⟨rfl, HK.out⟩
theorem gdrop_some {w : World} {pa q : Option Addr} {H X : Nat} {k : Int} {K : World → Prop} {E : Int} {L : World → Prop} (hc : ∀ W, Below w.heap.size w W → Calls Tryz.prog 84 #[.pointer pa] W (ret (.bool true) W))
    (hsk : ∀ W, Below (w.alloc (.cells #[.int .u64 (H : Int), .int .u32 (X : Int)] 99)).heap.size (w.alloc (.cells #[.int .u64 (H : Int), .int .u32 (X : Int)] 99)) W → Calls Tryz.prog 134 #[.pointer pa, .int .u64 (H : Int), .func (.func 140) #[] #[.pointer (some ⟨w.heap.size, 0, none⟩)]] W fun e w' => e = .returned (.tuple #[.pointer q, .int .i64 k, .bool true]) ∧ K w')
    (hdr : ∀ W, K W → Calls Tryz.prog 102 #[.pointer q, .int .i64 k] W fun e w' => e = .returned (.int .i64 E) ∧ L w') :
    Calls Tryz.prog 92 #[.pointer pa, .agg #[.int .u64 (H : Int), .int .u32 (X : Int)]] w fun e w' => e = .returned (.int .i64 E) ∧ L w' := by
  have HC := Lib.hid hc
  have HSK := Lib.hid hsk
  have HB0 : Hid (Below w.heap.size w (w.alloc (.cells #[.int .u64 (H : Int), .int .u32 (X : Int)] 99))) := Lib.hid (below_alloc w _)
  have HE0 : Hid ((w.alloc (.cells #[.int .u64 (H : Int), .int .u32 (X : Int)] 99)).heap[w.heap.size]? = some (.cells #[.int .u64 (H : Int), .int .u32 (X : Int)] 99 (0, 0))) := Lib.hid (heap_alloc_new w _)
  have HDR := Lib.hid hdr
  clear hdr
  clear hc hsk
  obtain ⟨b, hb⟩ : ∃ b, b = w.heap.size := ⟨_, rfl⟩
  rw [← hb] at HE0 HSK
  go_enter Tryz.func92, Tryz.ntmps92
  go_upto_region 1 with fail
  change Code.wp _ _ _ _ (w.alloc (.cells #[.int .u64 (H : Int), .int .u32 (X : Int)] 99))
  rw [← hb]
  clear hb
  generalize (w.alloc (.cells #[.int .u64 (H : Int), .int .u32 (X : Int)] 99)) = u0 at *
  go_wp2_with (first
    | (go_at_call 84
       refine (HC.out u0 HB0.out).mono ?_
       rintro e u1 ⟨rfl, hb⟩
       have HB1 := Lib.hid hb
       have x0 : u1.cell? ⟨b, 0, none⟩ = some (.int .u64 (H : Int)) := blk_cell ((hb.block b (lt_heap HE0.out)).trans HE0.out) 0
       clear hb)
    | (go_at_call 134
       refine (HSK.out u1 HB1.out).mono ?_
       rintro e u2 ⟨rfl, hk⟩
       have HK := Lib.hid hk
       clear hk x0)
    | (go_at_call 102
       refine (HDR.out u2 HK.out).mono ?_
       rintro e u3 ⟨rfl, hk⟩
       have HL := Lib.hid hk
       clear hk))
  go_ret
  exact ⟨rfl, HL.out⟩
theorem drop_asks (b H X : Nat) (b0 : Nat) (T : List Nat) (hb : b < b0) : AsksG 140 #[.pointer (some ⟨b, 0, none⟩)] (fun y => y == X) (fun _ => False) b0 T (fun _ W => W.heap[b]? = some (.cells #[.int .u64 (H : Int), .int .u32 (X : Int)] 99 (0, 0))) := by
  refine ⟨fun _ _ => (by kernel_rfl), fun _ W W' h hk => (hk.block b (lt_heap h) (by omega)).trans h, fun l x W h hx _ _ => ?_⟩
  have x1 : W.cell? ⟨b, 1, none⟩ = some (.int .u32 (X : Int)) := blk_cell h 1
  have HH := Lib.hid h
  have key : ∀ r : Bool, (((x : Int) == (X : Int)) = r) → (x == X) = r → Calls Tryz.prog 140 #[.int .u32 (x : Int), .pointer (some ⟨b, 0, none⟩)] W fun e W' => e = .returned (.bool (x == X)) ∧ W'.heap[b]? = some (.cells #[.int .u64 (H : Int), .int .u32 (X : Int)] 99 (0, 0)) ∧ Kept (fun _ => False) W W' := by
    intro r e1 e2
    have e2 := Lib.hid e2
    clear h
    cases r with
    | true =>
      go_enter Tryz.func140, Tryz.ntmps140
      go_wp2_with fail
      go_ret
      exact ⟨by rw [e2.out]; rfl, HH.out, Kept.refl _ _⟩
    | false =>
      go_enter Tryz.func140, Tryz.ntmps140
      go_wp2_with fail
      go_ret
      exact ⟨by rw [e2.out]; rfl, HH.out, Kept.refl _ _⟩
  by_cases e : x = X
  · exact key true (by rw [beq_iff_eq]; omega) (by simpa using e)
  · exact key false (by rw [beq_eq_false_iff_ne]; omega) (by simpa using e)
section
variable {w w' : World} {p pn px : Nat} {s : Gr} {F Fn Fx : Nat → Prop}
theorem gdrop_any (h : PGY w p pn px s F Fn Fx) (hs : s.Ok) (H X : Nat) (hH : H < 18446744073709551616) : Calls Tryz.prog 92 #[.pointer (some ⟨p, 0, none⟩), .agg #[.int .u64 (H : Int), .int .u32 (X : Int)]] w fun e w' => e = .returned (.int .i64 (s.drE H X)) ∧ ∃ F', PG0 w' p (s.dr H X) F' ∧ ExtG F F' w w' := by
  have hb0 := below_alloc w (.cells #[.int .u64 (H : Int), .int .u32 (X : Int)] 99)
  have hl : (w.alloc (.cells #[.int .u64 (H : Int), .int .u32 (X : Int)] 99)).heap[w.heap.size]? = some (.cells #[.int .u64 (H : Int), .int .u32 (X : Int)] 99 (0, 0)) := heap_alloc_new w _
  have hz : (w.alloc (.cells #[.int .u64 (H : Int), .int .u32 (X : Int)] 99)).heap.size = w.heap.size + 1 := by simp
  have hN := fun (K : World → Prop) (q : Option Addr) (k : Int) => gdrop_none (w := w) (pa := some ⟨p, 0, none⟩) (q := q) (H := H) (X := X) (k := k) (K := K) fun W hW => (h.step hW).made
  have hY := fun (K L : World → Prop) (q : Option Addr) (k E : Int) => gdrop_some (w := w) (pa := some ⟨p, 0, none⟩) (q := q) (H := H) (X := X) (k := k) (K := K) (L := L) (E := E) fun W hW => (h.step hW).made
  revert hN hY
  generalize (w.alloc (.cells #[.int .u64 (H : Int), .int .u32 (X : Int)] 99)) = u at *
  intro hN hY
  have up : ∀ {W W' : World}, Below u.heap.size u W → Below W.heap.size W W' → Below u.heap.size u W' := fun a b => a.trans (b.mono a.size)
  have kb : ∀ {W W' : World}, Kept (fun _ => False) W W' → Below W.heap.size W W' := fun k => k.below (Nat.le_refl _) fun _ q => q.elim
  have hfd : ∀ {W : World} {q : Nat} {t : Tb} {G : Nat → Prop}, Below u.heap.size u W → PT0 W q t G → t.Ok → Calls Tryz.prog 166 #[.pointer (some ⟨q, 0, none⟩), .int .u64 (H : Int), .func (.func 140) #[] #[.pointer (some ⟨w.heap.size, 0, none⟩)]] W fun e w' => e = .returned (.tuple (t.fdV H X)) ∧ Below W.heap.size W w' := fun {W q t G} hW hq ht => by
    refine (tabP.find hq ht H hH _ _ (fun y => y == X) _ (drop_asks w.heap.size H X W.heap.size _ (by have := hW.size; omega)) (fun _ q => q.elim) ((hW.block _ (lt_heap hl)).trans hl)).mono ?_
    rintro e w' ⟨rfl, _, hk⟩
    exact ⟨by rw [Tb.fnV_find], kb hk⟩
  have hst : ∀ {W : World}, Below u.heap.size u W → PGY W p pn px s F Fn Fx ∧ ExtG F F w W := fun hW => ⟨h.step (hb0.trans (hW.mono hb0.size)), ExtG.of_below (hb0.trans (hW.mono hb0.size))⟩
  unfold Gr.drE Gr.dr
  cases e1 : s.now.find H X with
  | some k =>
    refine hY (fun W => Below u.heap.size u W) (fun W' => ∃ F', PG0 W' p ⟨s.now.dr (k : Int), s.next, s.mv, s.most, s.at_⟩ F' ∧ ExtG F F' w W') (some ⟨pn, 0, none⟩) (k : Int) (s.now.drE (k : Int)) (fun W hW => gseek_1 ((hst hW).1.both) fun W2 hW2 => (hfd (up hW hW2) (hst (up hW hW2)).1.now hs.now).mono ?_) fun W hW => (tabP.drop (hst hW).1.now hs.now (k : Int)).mono ?_
    · rintro e w' ⟨rfl, hb⟩
      exact ⟨by rw [fdV_some e1], up (up hW hW2) hb⟩
    · rintro e w' ⟨rfl, F', ha, hx⟩
      have h1 := (hst hW).1.setN ha hx
      exact ⟨rfl, _, ⟨_, _, _, _, h1.1⟩, (hst hW).2.trans h1.2⟩
  | none =>
    have hf1 : ∀ W, Below u.heap.size u W → ∀ W2, Below W.heap.size W W2 → Calls Tryz.prog 166 #[.pointer (some ⟨pn, 0, none⟩), .int .u64 (H : Int), .func (.func 140) #[] #[.pointer (some ⟨w.heap.size, 0, none⟩)]] W2 fun e w' => e = .returned (.tuple #[.int .i64 0, .bool false]) ∧ Below u.heap.size u w' := fun W hW W2 hW2 => by
      refine (hfd (up hW hW2) (hst (up hW hW2)).1.now hs.now).mono ?_
      rintro e w' ⟨rfl, hb⟩
      exact ⟨by rw [fdV_none e1], up (up hW hW2) hb⟩
    cases hm : s.mv with
    | true =>
      rw [if_pos rfl, if_pos rfl]
      have hbo : ∀ W, Below u.heap.size u W → Calls Tryz.prog 165 #[.pointer (some ⟨p, 0, none⟩)] W (ret (.agg #[.pointer (some ⟨pn, 0, none⟩), .pointer (some ⟨px, 0, none⟩)]) W) := fun W hW => by
        have := (hst hW).1.both
        rwa [hm, if_pos rfl] at this
      cases e2 : s.next.find H X with
      | some k =>
        refine hY (fun W => Below u.heap.size u W) (fun W' => ∃ F', PG0 W' p ⟨s.now, s.next.dr (k : Int), true, s.most, s.at_⟩ F' ∧ ExtG F F' w W') (some ⟨px, 0, none⟩) (k : Int) (s.next.drE (k : Int)) (fun W hW => gseek_2 (hbo W hW) (hf1 W hW) fun W2 hW2 => (hfd hW2 ((hst hW2).1.next hm) (hs.next hm)).mono ?_) fun W hW => (tabP.drop ((hst hW).1.next hm) (hs.next hm) (k : Int)).mono ?_
        · rintro e w' ⟨rfl, hb⟩
          exact ⟨by rw [fdV_some e2], up hW2 hb⟩
        · rintro e w' ⟨rfl, F', ha, hx⟩
          have h1 := (hst hW).1.setX hm ha hx
          exact ⟨rfl, _, ⟨_, _, _, _, h1.1⟩, (hst hW).2.trans h1.2⟩
      | none =>
        refine (hN (fun W => Below u.heap.size u W) (some ⟨px, 0, none⟩) 0 (fun W hW => gseek_2 (hbo W hW) (hf1 W hW) fun W2 hW2 => (hfd hW2 ((hst hW2).1.next hm) (hs.next hm)).mono ?_)).mono ?_
        · rintro e w' ⟨rfl, hb⟩
          exact ⟨by rw [fdV_none e2], up hW2 hb⟩
        · rintro e w' ⟨rfl, hb⟩
          exact ⟨rfl, _, ⟨_, _, _, _, (hst hb).1⟩, (hst hb).2⟩
    | false =>
      rw [if_neg Bool.false_ne_true, if_neg Bool.false_ne_true]
      have hbo : ∀ W, Below u.heap.size u W → Calls Tryz.prog 165 #[.pointer (some ⟨p, 0, none⟩)] W (ret (.agg #[.pointer (some ⟨pn, 0, none⟩), .pointer none]) W) := fun W hW => by
        have := (hst hW).1.both
        rwa [hm, if_neg Bool.false_ne_true] at this
      refine (hN (fun W => Below u.heap.size u W) none 0 (fun W hW => gseek_2 (hbo W hW) (hf1 W hW) fun W2 hW2 => (tfind_un (fun W' _ => tmade_un (.inl rfl)) H _ _).mono ?_)).mono ?_
      · rintro e w' ⟨rfl, hb⟩
        exact ⟨rfl, up hW2 hb⟩
      · rintro e w' ⟨rfl, hb⟩
        exact ⟨rfl, _, ⟨_, _, _, _, (hst hb).1⟩, (hst hb).2⟩
end
end Go.Proofs.YtimcdnbfdkpffaaGreat
