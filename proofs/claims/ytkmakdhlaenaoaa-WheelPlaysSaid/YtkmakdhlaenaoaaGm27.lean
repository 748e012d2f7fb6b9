import Derived.Test.YtkmakdhlaenaoaaGm25
import Derived.Test.YtkmakdhlaenaoaaGm26
/- Stage 11: the landed fire. -/
namespace Go.Proofs.Ytkmakdhlaenaoaa
set_option maxRecDepth 100000
open Go.RowKit Go.Shelf
theorem Try.infoFI : (Try.prog.info? 58).map (fun i => (i.zero, i.size, i.bytes)) = some (some (.agg #[.int .i64 0, .int .u64 0, .int .u64 0]), 3, 24) := by kernel_rfl
/-- A block of another type than a row's elements is not the row's. -/
theorem own_other {w : World} {base size : Nat} {e : TypeId} {E : Option Addr} {n d : Nat} {f : Nat → Value} (h : OwnC w base e size E n d f) {q : Nat} {cs : Array Value} {t : TypeId} {fr : Nat × Nat} (hq : w.heap[q]? = some (.cells cs t fr)) (hte : t ≠ e) : some q ≠ Value.ownBlock (.slice E n d) := fun he => by
  obtain ⟨a, e1, e2⟩ := ownBlock_some he.symm
  rcases h.2 with ⟨hh, _⟩ | ⟨g', cap, cur, hv, _, hh, _⟩
  · rw [e1] at hh
    cases hh
  · injection hv with h1 _ _
    rw [e1] at h1
    injection h1 with h1
    rw [h1] at e2
    have e2 : g' = q := e2
    rw [← e2, hh] at hq
    injection hq with hq
    injection hq with _ hq _
    exact hte hq.symm
theorem rows_apart {w : World} {base base' size size' : Nat} {e e' : TypeId} {B E : Option Addr} {n n' d d' : Nat} {f f' : Nat → Value} (h : OwnC w base e size B n d f) (h' : OwnC w base' e' size' E n' d' f') (hte : e ≠ e') {k : Nat} (hk : Value.ownBlock (.slice B n d) = some k) : some k ≠ Value.ownBlock (.slice E n' d') := by
  obtain ⟨a, e1, e2⟩ := ownBlock_some hk
  rcases h.2 with ⟨hh, _⟩ | ⟨g', cap, cur, hv, _, hh, _⟩
  · rw [e1] at hh
    cases hh
  · injection hv with h1 _ _
    rw [e1] at h1
    injection h1 with h1
    rw [h1] at e2
    have e2 : g' = k := e2
    subst e2
    exact own_other h' hh hte
theorem own_grown {w w' : World} {base size : Nat} {e : TypeId} {B : Option Addr} {n d : Nat} {f : Nat → Value} (h : OwnC w base e size B n d f) {row : Option Nat} (hg : w.grownBy w' row) (hne : ∀ k, Value.ownBlock (.slice B n d) = some k → some k ≠ row) : OwnC w' base e size B n d f :=
  h.keepAny fun g' e => hg.block g' (by subst e; exact h.ltA) (hne g' (by rw [e]; rfl))
theorem goneL_snoc (a : Ar) (l : List Nat) (x : Nat) : goneL a (l ++ [x]) = (goneL a l).gone x := by
  unfold goneL
  rw [List.foldl_append]
  rfl
theorem take_snoc {D : List Nat} {j x : Nat} (h : D[j]? = some x) : D.take (j + 1) = D.take j ++ [x] := by
  obtain ⟨hj, e⟩ := List.getElem?_eq_some_iff.1 h
  rw [List.take_add_one, h]
  rfl
theorem not_taken {D : List Nat} {j x : Nat} (hn : D.Nodup) (h : D[j]? = some x) : ¬ x ∈ D.take j := fun hm => by
  have h1 : (D.take (j + 1)).Nodup := hn.sublist (List.take_sublist ..)
  rw [take_snoc h, List.nodup_append] at h1
  exact h1.2.2 x hm x (by simp) rfl
/-- How far what is due has been told. -/
def FST (A : Ar) (S : Sl) (now : Nat) (ta tw tt : Nat → Nat) (D : List Nat) (j : Nat) (ta5 tw5 tt5 : Nat → Nat) : Prop :=
  Plc (Lse 0 now) S (goneL A (D.take j)) ta5 (fun i => i ∈ D.drop j) ∧ ∀ i, ¬ i ∈ D.take j → ta5 i = ta i ∧ tw5 i = tw i ∧ tt5 i = tt i
theorem FST.step {A : Ar} {S : Sl} {now : Nat} {ta tw tt ta5 tw5 tt5 : Nat → Nat} {D : List Nat} {j x : Nat} (hA : A.Ok) (hn : D.Nodup) (hD : ∀ i, i ∈ D → A.at_ i ≠ 0) (hx : D[j]? = some x) (h : FST A S now ta tw tt D j ta5 tw5 tt5) :
    FST A S now ta tw tt D (j + 1) (updN ta5 x 0) (updN tw5 x 0) (updN tt5 x 0) := by
  obtain ⟨h1, h2⟩ := h
  obtain ⟨hj, e⟩ := List.getElem?_eq_some_iff.1 hx
  have hd : D.drop j = x :: D.drop (j + 1) := by rw [List.drop_eq_getElem_cons hj, e]
  have hnd : (x :: D.drop (j + 1)).Nodup := by rw [← hd]; exact hn.sublist (List.drop_sublist ..)
  have hxd : x ∈ D.drop j := by rw [hd]; exact List.mem_cons_self ..
  have h0 := h1.out x hxd
  have hf := h1.free hxd
  rw [← goneL_snoc, ← take_snoc hx] at hf
  refine ⟨(hf.imp (L' := Lse 0 now) (ta' := updN ta5 x 0) fun i q hi _ _ hL => ?_).iff fun i => ?_, fun i hi => ?_⟩
  · have hi : (goneL A (D.take (j + 1))).at_ i ≠ 0 := hi
    rw [take_snoc hx, goneL_snoc, Ar.at_gone h0] at hi
    split at hi
    · exact absurd rfl hi
    · rename_i hne
      rw [updN_ne hne]
      exact hL
  · rw [hd]
    constructor
    · rintro ⟨h3, h4⟩
      exact (List.mem_cons.1 h3).resolve_left h4
    · exact fun h3 => ⟨List.mem_cons_of_mem _ h3, fun e => (List.nodup_cons.1 hnd).1 (by rw [← e]; exact h3)⟩
  · rw [take_snoc hx] at hi
    have h3 : ¬ i ∈ D.take j := fun q => hi (List.mem_append_left _ q)
    have h4 : i ≠ x := fun q => hi (by rw [q]; simp)
    rw [updN_ne h4, updN_ne h4, updN_ne h4]
    exact h2 i h3
theorem FST.last {A : Ar} {S : Sl} {now : Nat} {ta tw tt ta5 tw5 tt5 : Nat → Nat} {D : List Nat} {n : Nat} (hl : D.length = n) (h : FST A S now ta tw tt D n ta5 tw5 tt5) :
    Plc (Lse 0 now) S (goneL A D) ta5 (fun _ => False) ∧ ∀ i, ¬ i ∈ D → ta5 i = ta i ∧ tw5 i = tw i ∧ tt5 i = tt i := by
  obtain ⟨h1, h2⟩ := h
  subst hl
  rw [List.take_length] at h1 h2
  exact ⟨h1.iff fun i => by simp, h2⟩
theorem Ext.own_kept {F F' R : Nat → Prop} {w w' w'' : World} (h : Ext F F' w w') (hk : Kept R w' w'') (hR : ∀ k, R k → w.heap.size ≤ k) : Ext F F' w w'' := by
  refine ⟨fun k q => ?_, h.kept.trans hk fun k hl e => ?_⟩
  · rcases h.sub k q with q | ⟨q1, q2⟩
    · exact .inl q
    · exact .inr ⟨q1, Nat.lt_of_lt_of_le q2 hk.size⟩
  · have := hR k e
    omega
set_option maxHeartbeats 1000000 in
theorem pwfire {w : World} {p ap z g c : Nat} {A : Ar} {S : Sl} {now tn : Nat} {ta tw tt : Nat → Nat} {F : Nat → Prop} (h : WX w p ap z g c A S now tn ta tw tt F) (hA : A.Ok) (hnow : now < 18446744073709551616) (hp : Plc (Lse 0 now) S A ta (fun _ => False)) :
    Calls Try.prog 37 #[.pointer (some ⟨p, 0, none⟩)] w fun e w' => ∃ D : List Nat, D.Perm (S.at_ (slt 0 now)) ∧ D.Pairwise (fun x y => ¬ tt y < tt x) ∧ ∃ E dE F' S2 ta2 tw2 tt2, e = .returned (.slice E D.length dE) ∧ OwnC w' w.heap.size 58 3 E D.length dE (rwc 3 fev (D.map fun x => (⟨x, A.at_ x, now, tw x⟩ : Tm))) ∧
      WX w' p ap z g c (goneL A D) S2 now tn ta2 tw2 tt2 F' ∧ Ext F F' w w' ∧ (∀ k, Value.ownBlock (.slice E D.length dE) = some k → ¬ F' k) ∧ Plc (Lse 0 now) S2 (goneL A D) ta2 (fun _ => False) ∧ ∀ i, ¬ i ∈ D → ta2 i = ta i ∧ tw2 i = tw i ∧ tt2 i = tt i := by
  obtain ⟨i0, hi0, hz0, hz1, hz2⟩ := info_parts Try.infoFI
  have HI0 := Lib.hid hi0
  have HZ0 := Lib.hid hz0
  have HZ1 := Lib.hid hz1
  have HZ2 := Lib.hid hz2
  clear hi0 hz0 hz1 hz2
  have HAOK0 := Lib.hid hA
  have hfit := hp.fit h.n
  obtain ⟨ot, hot⟩ : ∃ ot : Nat → Tm, ∀ x, ot x = ⟨x, A.at_ x, now, tw x⟩ := ⟨_, fun _ => rfl⟩
  have hotf : ot = fun x => (⟨x, A.at_ x, now, tw x⟩ : Tm) := funext hot
  have HSL := Lib.hid fun W => pslot W 0 (by omega) now hnow
  have HEM := Lib.hid fun (W : World) (Fw : Nat → Prop) (hx : WX W p ap z g c A S now tn ta tw tt Fw) => pwempty hx hfit hp.len (slt 0 now) (slt_lt (by omega) now)
  have HPE : Hid (Plc (Lse 0 now) (S.put (slt 0 now) []) A ta (fun i => i ∈ S.at_ (slt 0 now))) := Lib.hid ((hp.emptied (slt_lt (by omega) now)).iff fun i => by simp)
  have HLND := Lib.hid (hp.ok.nodup (slt 0 now))
  have HLT : Hid (∀ x, x ∈ S.at_ (slt 0 now) → x < A.has.length) := Lib.hid fun x hx => by
    have := hp.ok.low _ x hx
    rw [hp.cells] at this
    exact this
  have HLV0 : Hid (∀ x, x ∈ S.at_ (slt 0 now) → A.at_ x ≠ 0) := Lib.hid fun x hx => (hp.mem _ x hx).1
  have HL9 : Hid ((S.at_ (slt 0 now)).length ≤ 65536) := Lib.hid (Nat.le_trans (Sl.at_length hp.ok _) hfit.m)
  generalize S.put (slt 0 now) [] = S2 at *
  generalize S.at_ (slt 0 now) = L at *
  generalize slt 0 now = sq at *
  obtain ⟨n, hln⟩ : ∃ n, n = L.length := ⟨_, rfl⟩
  have HLN := Lib.hid hln
  rw [← hln] at HEM HL9
  have HX1 := Lib.hid (h.step (below_alloc w (.cells #[.pointer (some ⟨p, 0, none⟩)] 25)))
  have HE1 := Lib.hid ((Ext.refl F w).step (below_alloc w (.cells #[.pointer (some ⟨p, 0, none⟩)] 25)))
  have HBX1 : Hid ((w.alloc (.cells #[.pointer (some ⟨p, 0, none⟩)] 25)).heap[w.heap.size]? = some (.cells #[.pointer (some ⟨p, 0, none⟩)] 25 (0, 0))) := Lib.hid (heap_alloc_new w _)
  obtain ⟨b, hbw⟩ : ∃ b, b = w.heap.size := ⟨_, rfl⟩
  rw [← hbw] at HBX1
  have HNB0 : Hid (¬ F b) := Lib.hid fun hF => by have := h.old b hF; omega
  clear hln h hA hp hfit
  go_enter Try.func37, Try.ntmps37
  go_upto_region 1 with fail
  change Code.wp _ _ _ _ (w.alloc (.cells #[.pointer (some ⟨p, 0, none⟩)] 25))
  rw [← hbw]
  clear hbw
  generalize w.alloc (.cells #[.pointer (some ⟨p, 0, none⟩)] 25) = u1 at *
  have x0 : u1.cell? ⟨b, 0, none⟩ = some (.pointer (some ⟨p, 0, none⟩)) := blk_cell HBX1.out 0
  have x3 : u1.cell? ⟨p, 3, none⟩ = some (.int .u64 (now : Int)) := blk_cell HX1.out.blk 3
  have HBL : Hid (b < u1.heap.size) := Lib.hid (lt_heap HBX1.out)
  have HPL : Hid (p < u1.heap.size) := Lib.hid (lt_heap HX1.out.blk)
  refine wp_region_grow (C := fun W => Below u1.heap.size u1 W) 6 52 [val (.pointer (some ⟨p, 0, none⟩)), val (.pointer (some ⟨p, 0, none⟩)), val (.pointer (some ⟨p, 0, none⟩)), val (.pointer (some ⟨p, 3, none⟩)), val (.int .u64 (now : Int)), val (.int .i64 (sq : Int))] (by kernel_rfl) rfl (by kernel_rfl) rfl ⟨stb_val _, stb_val _, stb_val _, stb_val _, stb_val _, stb_val _, trivial⟩ (Below.refl _ _).drew ?_ ?_
  · refine each_cons ?_ ?_
    · intro a W hW hd
      have h1 : a.tmps[1]?.getD undef = .pointer (some ⟨b, 0, none⟩) := slot_eq (hd 1 (by decide))
      have xx : W.cell? ⟨b, 0, none⟩ = some (.pointer (some ⟨p, 0, none⟩)) := (hW.cell (p := ⟨b, 0, none⟩) HBL.out).trans x0
      refine grows_value _ hW (?_ : _ = _) rfl
      clear hd
      go_simp
    refine each_cons ?_ ?_
    · intro a W hW hd
      have h1 : a.tmps[1]?.getD undef = .pointer (some ⟨b, 0, none⟩) := slot_eq (hd 1 (by decide))
      have xx : W.cell? ⟨b, 0, none⟩ = some (.pointer (some ⟨p, 0, none⟩)) := (hW.cell (p := ⟨b, 0, none⟩) HBL.out).trans x0
      refine grows_value _ hW (?_ : _ = _) rfl
      clear hd
      go_simp
    refine each_cons ?_ ?_
    · intro a W hW hd
      have h10 : a.tmps[10]?.getD undef = .pointer (some ⟨p, 0, none⟩) := slot_eq (hd 10 (by decide))
      refine grows_value _ hW (?_ : _ = _) rfl
      clear hd
      go_simp
    refine each_cons ?_ ?_
    · intro a W hW hd
      have h11 : a.tmps[11]?.getD undef = .pointer (some ⟨p, 0, none⟩) := slot_eq (hd 11 (by decide))
      refine grows_value _ hW (?_ : _ = _) rfl
      clear hd
      go_simp
    refine each_cons ?_ ?_
    · intro a W hW hd
      have h12 : a.tmps[12]?.getD undef = .pointer (some ⟨p, 3, none⟩) := slot_eq (hd 12 (by decide))
      have xx : W.cell? ⟨p, 3, none⟩ = some (.int .u64 (now : Int)) := (hW.cell (p := ⟨p, 3, none⟩) HPL.out).trans x3
      refine grows_value _ hW (?_ : _ = _) rfl
      clear hd
      go_simp
    refine each_cons ?_ ?_
    · intro a W hW hd
      have h13 : a.tmps[13]?.getD undef = .int .u64 (now : Int) := slot_eq (hd 13 (by decide))
      refine grows_call (fn := 59) (args := #[.int .i64 0, .int .u64 (now : Int)]) (by clear hd; go_simp) ?_
      refine (HSL.out W).mono ?_
      rintro e W' ⟨rfl, hb⟩
      exact ⟨_, rfl, rfl, hb, hW.trans (hb.mono hW.size)⟩
    exact each_nil
  · refine behind_val rfl ?_
    refine behind_val rfl ?_
    refine behind_val rfl ?_
    refine behind_val rfl ?_
    refine behind_val rfl ?_
    refine behind_val rfl ?_
    refine behind_nil fun u2 hC1 hF1 => ?_
    clear hF1
    have HX2 := Lib.hid (HX1.out.step hC1)
    have HE2 := Lib.hid (HE1.out.step hC1)
    have HBX2 : Hid (u2.heap[b]? = some (.cells #[.pointer (some ⟨p, 0, none⟩)] 25 (0, 0))) := Lib.hid ((hC1.block _ (lt_heap HBX1.out)).trans HBX1.out)
    clear hC1 x0 x3
    simp only [Act.put, List.setIfInBounds_toArray, List.set_cons_succ, List.set_cons_zero, List.drop_succ_cons, List.drop_zero]
    go_upto_region 2 with (first
      | (go_at_call 58
         refine (HEM.out _ _ HX2.out).mono ?_
         rintro e u3 ⟨B, d, rfl, ho, F3, hx3, he3, hnf3⟩
         have HX3 := Lib.hid hx3
         have HE3 := Lib.hid (HE2.out.trans he3)
         have HO3 := Lib.hid (ho.le HE2.out.kept.size)
         have HN3 := Lib.hid hnf3
         have HBX3 : Hid (u3.heap[b]? = some (.cells #[.pointer (some ⟨p, 0, none⟩)] 25 (0, 0))) := Lib.hid ((he3.kept.block b (lt_heap HBX2.out) HNB0.out).trans HBX2.out)
         have HNB3 : Hid (¬ F3 b) := Lib.hid fun hF => (he3.sub b hF).elim HNB0.out fun h => by have := lt_heap HBX2.out; omega
         have HBB3 : Hid (∀ k, Value.ownBlock (.slice B n d) = some k → k ≠ b) := Lib.hid fun k e hk => by
           subst hk
           exact own_other HO3.out HBX3.out (by decide) e.symm
         clear ho hx3 he3 hnf3 HX2 HE2 HBX2 HEM))
    have hmf : ∀ W, (Instr.makeFunc (.func 61) #[] #[.pointer (some ⟨b, 0, none⟩)]).run Try.prog W = .ok (.func (.func 61) #[] #[.pointer (some ⟨b, 0, none⟩)]) W := fun W => by rfl
    have hso : Calls Try.prog 60 #[.slice B n d, .func (.func 61) #[] #[.pointer (some ⟨b, 0, none⟩)]] u3 fun e w' => e = .returned (.tuple #[]) ∧ ∃ D : List Nat, D.Perm L ∧ D.Pairwise (fun x y => ¬ tt y < tt x) ∧ OwnC w' w.heap.size 3 1 B n d (fun k => .int .i64 (D.getD k 0 : Int)) ∧ Kept (fun k => Value.ownBlock (.slice B n d) = some k) u3 w' := by
      rcases Nat.eq_zero_or_pos n with h0 | h0
      · have hl0 : L = [] := List.eq_nil_of_length_eq_zero (by rw [← HLN.out]; exact h0)
        subst h0
        have hc0 := psort_none u3 B d (.func (.func 61) #[] #[.pointer (some ⟨b, 0, none⟩)])
        refine Calls.mono hc0 ?_
        rintro e w' ⟨rfl, rfl⟩
        exact ⟨rfl, [], by rw [hl0], List.Pairwise.nil, HO3.out.same fun k hk => absurd hk (by omega), Kept.refl _ _⟩
      · obtain ⟨gb, hgb, _⟩ := HO3.out.lies h0
        subst hgb
        have hh := psort HX3.out HBX3.out (D := L) HLT.out (by rw [← HLN.out]; exact HL9.out) (by rw [← HLN.out]; exact HO3.out) (HN3.out gb rfl) (HBB3.out gb rfl)
        rw [← HLN.out] at hh
        refine hh.mono ?_
        rintro e w' ⟨rfl, D, h1, h2, h3, h4⟩
        exact ⟨rfl, D, h1, h2, h3, h4.mono fun k _ e => by rw [e]; rfl⟩
    have HSO := Lib.hid hso
    clear hso
    go_upto_region 3 with (first
      | (go_at_call 60
         refine HSO.out.mono ?_
         rintro e u4 ⟨rfl, D, hpm, hpw, ho4, hk4⟩))
    clear hmf
    have HX4 := Lib.hid (HX3.out.keep hk4 fun k hF e => HN3.out k e hF)
    have HE4 : Hid (Ext F F3 w u4) := Lib.hid (HE3.out.own_kept hk4 fun k e => HO3.out.at_ k e)
    have HD4 := Lib.hid ho4
    have HN4 := HN3
    have HBX4 : Hid (u4.heap[b]? = some (.cells #[.pointer (some ⟨p, 0, none⟩)] 25 (0, 0))) := Lib.hid ((hk4.block b (lt_heap HBX3.out) (fun e => HBB3.out b e rfl)).trans HBX3.out)
    have HDL : Hid (D.length = n) := Lib.hid (by rw [HLN.out]; exact hpm.length_eq)
    have HDN : Hid D.Nodup := Lib.hid (hpm.nodup_iff.2 HLND.out)
    have HDM : Hid (∀ x, x ∈ D → A.at_ x ≠ 0 ∧ x < A.has.length) := Lib.hid fun x hx => ⟨(HLV0.out x (hpm.mem_iff.1 hx)), HLT.out x (hpm.mem_iff.1 hx)⟩
    have HST0 : Hid (FST A S2 now ta tw tt D 0 ta tw tt) := Lib.hid ⟨HPE.out.iff fun i => by simp [hpm.mem_iff], fun i _ => ⟨rfl, rfl, rfl⟩⟩
    have HPM := Lib.hid hpm
    have HPW := Lib.hid hpw
    clear ho4 hk4 hpm hpw HX3 HE3 HO3 HN3 HBX3 HBB3 HSO HLN HLND HLV0 HLT HPE
    go_wp2_with fail
    go_loopw [4, 21] (fun o vi wr => ∃ (j : Nat) (E : Option Addr) (dE : Nat) (F5 : Nat → Prop) (ta5 tw5 tt5 : Nat → Nat), vi = .int .i64 (j : Int) ∧ o = .slice E j dE ∧ j ≤ n ∧ OwnC wr w.heap.size 58 3 E j dE (rwc 3 fev ((D.take j).map ot)) ∧ WX wr p ap z g c (goneL A (D.take j)) S2 now tn ta5 tw5 tt5 F5 ∧ Ext F F5 w wr ∧ OwnC wr w.heap.size 3 1 B n d (fun k => .int .i64 (D.getD k 0 : Int)) ∧ (∀ k, Value.ownBlock (.slice B n d) = some k → ¬ F5 k) ∧ (∀ k, Value.ownBlock (.slice E j dE) = some k → ¬ F5 k) ∧ wr.heap[b]? = some (.cells #[.pointer (some ⟨p, 0, none⟩)] 25 (0, 0)) ∧ ¬ F5 b ∧ FST A S2 now ta tw tt D j ta5 tw5 tt5) (fun _ vi _ => n - (intOf vi).toNat)
    case atStart => exact ⟨0, none, 0, F3, ta, tw, tt, rfl, rfl, Nat.zero_le _, OwnC.nil_ _ _ _ _ _, HX4.out, HE4.out, HD4.out, HN4.out, (fun k e => by cases e), HBX4.out, HNB3.out, HST0.out⟩
    case round =>
      obtain ⟨j, E, dE, F5, ta5, tw5, tt5, rfl, rfl, hj, hr, hx, he, hd, hnd, hnr, hbx, hnb, hst⟩ := hrel
      have HR := Lib.hid hr
      have HX := Lib.hid hx
      have HE := Lib.hid he
      have HD := Lib.hid hd
      have HND := Lib.hid hnd
      have HNR := Lib.hid hnr
      have HBX := Lib.hid hbx
      have HNB := Lib.hid hnb
      have HSJ := Lib.hid hst
      clear hr hx he hd hnd hnr hbx hnb hst HX4 HE4 HD4 HN4 HBX4 HNB3 HST0
      have hl9 := HL9.out
      by_cases hjn : j < n
      · have j1 : (j : Int) < (n : Int) := by omega
        have j0 : (0 : Int) ≤ (j : Int) := by omega
        have j2 : ((j : Int)).toNat = j := by omega
        have zj : IntKind.i64.wrap ((j : Int) + 1) = (j : Int) + 1 := by rw [IntKind.wrap_i64]; omega
        have hjd : j < D.length := by rw [HDL.out]; exact hjn
        obtain ⟨x, hxx⟩ : ∃ x, D[j]? = some x := ⟨_, List.getElem?_eq_getElem hjd⟩
        have hgx : D.getD j 0 = x := by rw [List.getD_eq_getElem?_getD, hxx]; rfl
        obtain ⟨hax, hxm⟩ := HDM.out x (List.mem_of_getElem? hxx)
        have HDT : Hid ((D.take j).length = j) := Lib.hid (by rw [List.length_take]; omega)
        have HTK : Hid (D.take (j + 1) = D.take j ++ [x]) := Lib.hid (take_snoc hxx)
        have HGN : Hid (goneL A (D.take j ++ [x]) = (goneL A (D.take j)).gone x) := Lib.hid (goneL_snoc ..)
        obtain ⟨q1, q2, q3, q4, q5⟩ := goneL_facts (D.take j) A HAOK0.out (HDN.out.sublist (List.take_sublist ..)) (fun i hi => (HDM.out i (List.mem_of_mem_take hi)).1)
        have hnt := not_taken HDN.out hxx
        have hk2 : (goneL A (D.take j)).at_ x = A.at_ x := by rw [q2, if_neg hnt]
        have HAOK := Lib.hid q1
        have HLV : Hid ((goneL A (D.take j)).live (x : Int) (A.at_ x) = true) := Lib.hid (Ar.live_iff.2 ⟨by omega, hax, by rw [show ((x : Int)).toNat = x by omega, hk2]⟩)
        have hxm2 : x < (goneL A (D.take j)).has.length := by rw [q5]; exact hxm
        have HST := Lib.hid (FST.step HAOK0.out HDN.out (fun i hi => (HDM.out i hi).1) hxx HSJ.out)
        have HWX : Hid (tw5 x = tw x) := Lib.hid (HSJ.out.2 x hnt).2.1
        have hmn : (goneL A (D.take j)).has.length ≤ 65536 := HX.out.n
        have HAT : Hid (Calls Try.prog 54 #[.pointer (some ⟨ap, 0, none⟩), .int .i64 (x : Int)] wr (ret (.tuple #[.agg #[.int .i64 (x : Int), .int .u64 (A.at_ x : Int)], .bool true]) wr)) := Lib.hid (HX.out.arq fun Fa hA => by
          have h9 := pat_any hA hmn (x : Int)
          have e1 : (goneL A (D.take j)).is_ (x : Int) = true := by
            unfold Ar.is_
            rw [show ((x : Int)).toNat = x by omega, hk2]
            simp [hax]
          unfold Ar.hat at h9
          rw [e1, show ((x : Int)).toNat = x by omega, hk2] at h9
          exact h9)
        obtain ⟨kx, hkx⟩ : ∃ kx, kx = A.at_ x := ⟨_, rfl⟩
        obtain ⟨wx, hwx⟩ : ∃ wx, wx = tw x := ⟨_, rfl⟩
        have HOTX : Hid (fev (ot x) = #[.int .i64 (x : Int), .int .u64 (kx : Int), .int .u64 (wx : Int)]) := Lib.hid (by rw [hot x, hkx, hwx]; rfl)
        rw [← hkx] at HLV HAT
        rw [← hwx] at HWX
        obtain ⟨m, hm⟩ : ∃ m, m = (goneL A (D.take j)).has.length := ⟨_, rfl⟩
        have HMM := Lib.hid hm
        rw [← hm] at hxm2
        have i0' : (0 : Int) ≤ (x : Int) := by omega
        have i1' : (x : Int) < (m : Int) := by omega
        have i2' : ((x : Int)).toNat = x := by omega
        have cap := HX.out.cap9
        rw [← hm] at cap
        have capd := HD.out.cap
        have capd9 := HD.out.cap_le
        unfold maxLen at capd9
        obtain ⟨gb, hgb, _, _, hc, _⟩ := HD.out.lies (by omega)
        have xj : wr.cell? ⟨gb, j, none⟩ = some (.int .i64 (x : Int)) := by rw [← hgx]; exact hc j (by omega)
        subst hgb
        have x0 : wr.cell? ⟨b, 0, none⟩ = some (.pointer (some ⟨p, 0, none⟩)) := blk_cell HBX.out 0
        have xa : wr.cell? ⟨p, 0, none⟩ = some (.pointer (some ⟨ap, 0, none⟩)) := blk_cell HX.out.blk 0
        clear hc hgx hax hxm hkx hwx hm hxx q1 q2 q3 q4 q5 hnt hk2 hmn hxm2 HSJ
        go_upto_region 8 with (first
          | (go_at_call 54
             refine HAT.out.mono ?_
             rintro e u ⟨rfl, hbb⟩
             have HX6 := Lib.hid (HX.out.step hbb)
             have HE6 := Lib.hid (HE.out.step hbb)
             have HD6 := Lib.hid (HD.out.below hbb)
             have HR6 := Lib.hid (HR.out.below hbb)
             have HBX6 : Hid (u.heap[b]? = some (.cells #[.pointer (some ⟨p, 0, none⟩)] 25 (0, 0))) := Lib.hid ((hbb.block _ (lt_heap HBX.out)).trans HBX.out)
             clear hbb x0 xa xj))
        have hal := below_alloc u (.cells #[.int .i64 (x : Int), .int .u64 (kx : Int)] 46)
        have HX7 := Lib.hid (HX6.out.step hal)
        have HE7 := Lib.hid (HE6.out.step hal)
        have HD7 := Lib.hid (HD6.out.below hal)
        have HR7 := Lib.hid (HR6.out.below hal)
        have HBX7 : Hid ((u.alloc (.cells #[.int .i64 (x : Int), .int .u64 (kx : Int)] 46)).heap[b]? = some (.cells #[.pointer (some ⟨p, 0, none⟩)] 25 (0, 0))) := Lib.hid (blk_old HBX6.out _)
        have HHB7 : Hid ((u.alloc (.cells #[.int .i64 (x : Int), .int .u64 (kx : Int)] 46)).heap[u.heap.size]? = some (.cells #[.int .i64 (x : Int), .int .u64 (kx : Int)] 46 (0, 0))) := Lib.hid (heap_alloc_new u _)
        clear hal HX6 HE6 HD6 HR6 HBX6 HX HE HD HR HBX
        change Code.wp _ _ _ _ (u.alloc (.cells #[.int .i64 (x : Int), .int .u64 (kx : Int)] 46))
        generalize u.heap.size = hb at *
        generalize u.alloc (.cells #[.int .i64 (x : Int), .int .u64 (kx : Int)] 46) = v7 at *
        have x0 : v7.cell? ⟨b, 0, none⟩ = some (.pointer (some ⟨p, 0, none⟩)) := blk_cell HBX7.out 0
        have x2 : v7.cell? ⟨p, 2, none⟩ = some (.slice (some ⟨g, 0, none⟩) m c) := by rw [HMM.out]; exact blk_cell HX7.out.blk 2
        have xg : v7.cell? ⟨g, x * 3 + 1, none⟩ = some (.int .u64 (wx : Int)) := by rw [← HWX.out]; exact HX7.out.t1 (by rw [← HMM.out]; omega)
        have y0 : v7.cell? ⟨hb, 0, none⟩ = some (.int .i64 (x : Int)) := blk_cell HHB7.out 0
        have y1 : v7.cell? ⟨hb, 1, none⟩ = some (.int .u64 (kx : Int)) := blk_cell HHB7.out 1
        have HBL : Hid (b < v7.heap.size) := Lib.hid (lt_heap HBX7.out)
        have HPL : Hid (p < v7.heap.size) := Lib.hid (lt_heap HX7.out.blk)
        have HGL : Hid (g < v7.heap.size) := Lib.hid (HX7.out.old g HX7.out.mg)
        have HHL : Hid (hb < v7.heap.size) := Lib.hid (lt_heap HHB7.out)
        have hbd : ∀ W, (Instr.build 58 #[(0, .agg #[.int .i64 (x : Int), .int .u64 (kx : Int)]), (1, .int .u64 (wx : Int))]).run Try.prog W = .ok (.agg #[.int .i64 (x : Int), .int .u64 (kx : Int), .int .u64 (wx : Int)]) W := fun W => by kernel_rfl
        refine wp_region_grow (C := fun W => Below v7.heap.size v7 W) 12 52 [val (.slice E j dE), val (.agg #[.int .i64 (x : Int), .int .u64 (kx : Int)]), val (.pointer (some ⟨p, 0, none⟩)), val (.pointer (some ⟨p, 0, none⟩)), val (.pointer (some ⟨p, 2, none⟩)), val (.slice (some ⟨g, 0, none⟩) m c), val (.int .i64 (x : Int)), val (.pointer (some ⟨g, x * 3, none⟩)), val (.pointer (some ⟨g, x * 3 + 1, none⟩)), val (.int .u64 (wx : Int)), val (.agg #[.int .i64 (x : Int), .int .u64 (kx : Int), .int .u64 (wx : Int)]), fun v W => ∃ zb, v = .slice (some ⟨zb, 0, none⟩) 1 1 ∧ W.heap[zb]? = some (.cells #[.int .i64 (x : Int), .int .u64 (kx : Int), .int .u64 (wx : Int)] 58 (0, 0)) ∧ v7.heap.size ≤ zb] (by kernel_rfl) rfl (by kernel_rfl) rfl ⟨stb_val _, stb_val _, stb_val _, stb_val _, stb_val _, stb_val _, stb_val _, stb_val _, stb_val _, stb_val _, stb_val _, (fun v W W' h hb => by obtain ⟨zb, h1, h2, h3⟩ := h; exact ⟨zb, h1, (hb.block _ (lt_heap h2)).trans h2, h3⟩), trivial⟩ (Below.refl _ _).drew ?_ ?_
        · refine each_cons ?_ ?_
          · intro a W hW hd
            have h4 : a.tmps[4]?.getD undef = .slice E j dE := slot_eq (hd 4 (by decide))
            exact grows_value _ hW (by simp [execOp, Act.eval, h4]) rfl
          refine each_cons ?_ ?_
          · intro a W hW hd
            have h7 : a.tmps[7]?.getD undef = .pointer (some ⟨hb, 0, none⟩) := slot_eq (hd 7 (by decide))
            have xx0 : W.cell? ⟨hb, 0, none⟩ = some (.int .i64 (x : Int)) := (hW.cell (p := ⟨hb, 0, none⟩) HHL.out).trans y0
            have xx1 : W.cell? ⟨hb, 1, none⟩ = some (.int .u64 (kx : Int)) := (hW.cell (p := ⟨hb, 1, none⟩) HHL.out).trans y1
            refine grows_value _ hW (?_ : _ = _) rfl
            clear hd
            go_simp
          refine each_cons ?_ ?_
          · intro a W hW hd
            have h1 : a.tmps[1]?.getD undef = .pointer (some ⟨b, 0, none⟩) := slot_eq (hd 1 (by decide))
            have xx : W.cell? ⟨b, 0, none⟩ = some (.pointer (some ⟨p, 0, none⟩)) := (hW.cell (p := ⟨b, 0, none⟩) HBL.out).trans x0
            refine grows_value _ hW (?_ : _ = _) rfl
            clear hd
            go_simp
          refine each_cons ?_ ?_
          · intro a W hW hd
            have h36 : a.tmps[36]?.getD undef = .pointer (some ⟨p, 0, none⟩) := slot_eq (hd 36 (by decide))
            refine grows_value _ hW (?_ : _ = _) rfl
            clear hd
            go_simp
          refine each_cons ?_ ?_
          · intro a W hW hd
            have h37 : a.tmps[37]?.getD undef = .pointer (some ⟨p, 0, none⟩) := slot_eq (hd 37 (by decide))
            refine grows_value _ hW (?_ : _ = _) rfl
            clear hd
            go_simp
          refine each_cons ?_ ?_
          · intro a W hW hd
            have h38 : a.tmps[38]?.getD undef = .pointer (some ⟨p, 2, none⟩) := slot_eq (hd 38 (by decide))
            have xx : W.cell? ⟨p, 2, none⟩ = some (.slice (some ⟨g, 0, none⟩) m c) := (hW.cell (p := ⟨p, 2, none⟩) HPL.out).trans x2
            refine grows_value _ hW (?_ : _ = _) rfl
            clear hd
            go_simp
          refine each_cons ?_ ?_
          · intro a W hW hd
            have h6 : a.tmps[6]?.getD undef = .int .i64 (x : Int) := slot_eq (hd 6 (by decide))
            exact grows_value _ hW (by simp [execOp, Act.eval, h6]) rfl
          refine each_cons ?_ ?_
          · intro a W hW hd
            have h39 : a.tmps[39]?.getD undef = .slice (some ⟨g, 0, none⟩) m c := slot_eq (hd 39 (by decide))
            have h40 : a.tmps[40]?.getD undef = .int .i64 (x : Int) := slot_eq (hd 40 (by decide))
            refine grows_value _ hW (?_ : _ = _) rfl
            clear hd
            go_simp
          refine each_cons ?_ ?_
          · intro a W hW hd
            have h41 : a.tmps[41]?.getD undef = .pointer (some ⟨g, x * 3, none⟩) := slot_eq (hd 41 (by decide))
            refine grows_value _ hW (?_ : _ = _) rfl
            clear hd
            go_simp
          refine each_cons ?_ ?_
          · intro a W hW hd
            have h42 : a.tmps[42]?.getD undef = .pointer (some ⟨g, x * 3 + 1, none⟩) := slot_eq (hd 42 (by decide))
            have xx : W.cell? ⟨g, x * 3 + 1, none⟩ = some (.int .u64 (wx : Int)) := (hW.cell (p := ⟨g, x * 3 + 1, none⟩) HGL.out).trans xg
            refine grows_value _ hW (?_ : _ = _) rfl
            clear hd
            go_simp
          refine each_cons ?_ ?_
          · intro a W hW hd
            have h35 : a.tmps[35]?.getD undef = .agg #[.int .i64 (x : Int), .int .u64 (kx : Int)] := slot_eq (hd 35 (by decide))
            have h43 : a.tmps[43]?.getD undef = .int .u64 (wx : Int) := slot_eq (hd 43 (by decide))
            refine grows_value _ hW (?_ : _ = _) rfl
            have hb' := hbd W
            clear hd
            simp [execOp, Act.eval, h35, h43, hb']
          refine each_cons ?_ ?_
          · intro a W hW hd
            have h44 : a.tmps[44]?.getD undef = .agg #[.int .i64 (x : Int), .int .u64 (kx : Int), .int .u64 (wx : Int)] := slot_eq (hd 44 (by decide))
            refine grows_new (w' := W.alloc (.cells #[.int .i64 (x : Int), .int .u64 (kx : Int), .int .u64 (wx : Int)] 58)) (.slice (some ⟨W.heap.size, 0, none⟩) 1 1) (?_ : _ = _) ⟨W.heap.size, rfl, heap_alloc_new W _, hW.size⟩ (below_alloc W _) (hW.alloc hW.size _)
            clear hd
            go_simp
          exact each_nil
        · refine behind_val rfl ?_
          refine behind_val rfl ?_
          refine behind_val rfl ?_
          refine behind_val rfl ?_
          refine behind_val rfl ?_
          refine behind_val rfl ?_
          refine behind_val rfl ?_
          refine behind_val rfl ?_
          refine behind_val rfl ?_
          refine behind_val rfl ?_
          refine behind_val rfl ?_
          refine behind_cons fun v45 => ?_
          refine behind_nil fun u8 hC8 hF8 => ?_
          obtain ⟨_, zb, rfl, hzb, hzl⟩ := hF8
          have HZB := Lib.hid hzb
          have HZL := Lib.hid hzl
          simp only [Act.put, List.setIfInBounds_toArray, List.set_cons_succ, List.set_cons_zero, List.drop_succ_cons, List.drop_zero]
          have HX8 := Lib.hid (HX7.out.step hC8)
          have HE8 := Lib.hid (HE7.out.step hC8)
          have HD8 := Lib.hid (HD7.out.below hC8)
          have HR8 := Lib.hid (HR7.out.below hC8)
          have HBX8 : Hid (u8.heap[b]? = some (.cells #[.pointer (some ⟨p, 0, none⟩)] 25 (0, 0))) := Lib.hid ((hC8.block _ (lt_heap HBX7.out)).trans HBX7.out)
          have HHB8 : Hid (u8.heap[hb]? = some (.cells #[.int .i64 (x : Int), .int .u64 (kx : Int)] 46 (0, 0))) := Lib.hid ((hC8.block _ (lt_heap HHB7.out)).trans HHB7.out)
          have HWS := Lib.hid HE8.out.kept.size
          clear hzb hzl hC8 x0 x2 xg y0 y1 hbd HX7 HE7 HD7 HR7 HBX7 HHB7
          go_upto_region 9 with (first
            | (at_builtin
               refine wpList_append_vals rfl (.tmp 34) (.tmp 45) 54 rfl w.heap.size 58 i0 (.agg #[.int .i64 0, .int .u64 0, .int .u64 0]) 3 Try.underlying54 HI0.out HZ0.out HZ1.out rfl (by decide) rfl HR8.out (m := 1) (A' := some ⟨zb, 0, none⟩) (B := u8.heap.size) (g := fun k => (fev (ot x)).getD k undef) rfl (.inr ⟨zb, 0, rfl, lt_heap HZB.out, fun k hk => ?_⟩) (fun k hk => fev_one _ k (by omega)) (by unfold maxLen; omega) (by rw [HZ2.out]; omega) HWS.out ?_
               · rw [Nat.zero_add, blk_cell HZB.out k, HOTX.out]
                 rcases (show k = 0 ∨ k = 1 ∨ k = 2 by omega) with rfl | rfl | rfl <;> rfl
               intro E2 dE2 u9 hown hg hbk
               have HR9 := Lib.hid hown
               have HX9 := Lib.hid (HX8.out.own hg HNR.out)
               have HE9 := Lib.hid (HE8.out.own hg HR8.out.at_)
               have HD9 := Lib.hid (own_grown HD8.out hg fun k e => rows_apart HD8.out HR8.out (by decide) e)
               have HBX9 : Hid (u9.heap[b]? = some (.cells #[.pointer (some ⟨p, 0, none⟩)] 25 (0, 0))) := Lib.hid ((hg.block b (lt_heap HBX8.out) (own_other HR8.out HBX8.out (by decide))).trans HBX8.out)
               have HHB9 : Hid (u9.heap[hb]? = some (.cells #[.int .i64 (x : Int), .int .u64 (kx : Int)] 46 (0, 0))) := Lib.hid ((hg.block hb (lt_heap HHB8.out) (own_other HR8.out HHB8.out (by decide))).trans HHB8.out)
               have HNR9 : Hid (∀ k, Value.ownBlock (.slice E2 (j + 1) dE2) = some k → ¬ F5 k) := Lib.hid fun k e hF => by
                 rcases hbk with e2 | e2
                 · exact HNR.out k (e2.symm.trans e) hF
                 · rw [e] at e2
                   injection e2 with e2
                   have := HX8.out.old k hF
                   omega
               clear hown hg hbk HX8 HE8 HD8 HR8 HBX8 HHB8 HNR HZB HZL))
          have y0 : u9.cell? ⟨hb, 0, none⟩ = some (.int .i64 (x : Int)) := blk_cell HHB9.out 0
          have y1 : u9.cell? ⟨hb, 1, none⟩ = some (.int .u64 (kx : Int)) := blk_cell HHB9.out 1
          have x0 : u9.cell? ⟨b, 0, none⟩ = some (.pointer (some ⟨p, 0, none⟩)) := blk_cell HBX9.out 0
          have HEND := Lib.hid (pwend HX9.out HAOK.out x kx HLV.out)
          go_wp2_with (first
            | (go_at_call 39
               refine HEND.out.mono ?_
               rintro e u10 ⟨rfl, F6, hx6, he6⟩
               have HX10 := Lib.hid hx6
               have HE10 := Lib.hid (HE9.out.trans he6)
               have HD10 := Lib.hid (own_beside HD9.out HND.out he6)
               have HR10 := Lib.hid (own_beside HR9.out HNR9.out he6)
               have HBX10 : Hid (u10.heap[b]? = some (.cells #[.pointer (some ⟨p, 0, none⟩)] 25 (0, 0))) := Lib.hid ((he6.kept.block b (lt_heap HBX9.out) HNB.out).trans HBX9.out)
               have HNB10 : Hid (¬ F6 b) := Lib.hid fun hF => (he6.sub b hF).elim HNB.out fun h => by have := lt_heap HBX9.out; omega
               clear hx6 he6 HX9 HE9 HD9 HR9 HBX9 HHB9 HNB HND HNR9 x0 y0 y1 HEND))
          go_roundw
          case rel =>
            refine ⟨j + 1, E2, dE2, F6, updN ta5 x 0, updN tw5 x 0, updN tt5 x 0, by go_num, rfl, by omega, ?_, ?_, HE10.out, HD10.out.1, HD10.out.2, HR10.out.2, HBX10.out, HNB10.out, ?_⟩
            · refine HR10.out.1.same fun k hk => ?_
              rw [HTK.out, List.map_append]
              have := rwc_snoc (sz := 3) (by decide) fev ((D.take j).map ot) (ot x) k (by rw [List.length_map, List.length_take, Nat.min_eq_left (by omega)]; exact hk)
              rw [List.length_map, List.length_take, Nat.min_eq_left (by omega)] at this
              exact this
            · rw [HTK.out, HGN.out]
              exact HX10.out
            · exact HST.out
          case measure => simp [intOf]; omega
      · obtain rfl : n = j := by omega
        have e1 : D.take n = D := by rw [← HDL.out]; exact List.take_length
        have e2 := HSJ.out
        have e3 := HX.out
        have e4 := HR.out
        rw [e1] at e3 e4
        clear HX HR HSJ
        have HSF := Lib.hid (FST.last HDL.out e2)
        have HX := Lib.hid e3
        have HR := Lib.hid e4
        clear e1 e2 e3 e4
        go_wp2_with fail
        go_ret
        refine ⟨D, HPM.out, HPW.out, E, dE, F5, S2, ta5, tw5, tt5, by rw [HDL.out]; rfl, ?_, HX.out, HE.out, ?_, HSF.out.1, HSF.out.2⟩
        · rw [HDL.out, ← hotf]
          exact HR.out
        · rw [HDL.out]
          exact HNR.out
end Go.Proofs.Ytkmakdhlaenaoaa
