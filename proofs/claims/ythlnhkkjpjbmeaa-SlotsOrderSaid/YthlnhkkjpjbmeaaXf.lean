/- Stage 10: emptied. -/
import Derived.Test.YthlnhkkjpjbmeaaXe
namespace Go.Proofs.Ythlnhkkjpjbmeaa
set_option maxRecDepth 100000
open Go.RowKit Go.Shelf
attribute [local go_sem] Oper.semAt_some
/-- All cells of a list are removed. -/
def Sl.emp (s : Sl) (l : Int) : Sl := if 0 ≤ l ∧ l < (s.ls.length : Int) then s.put l.toNat [] else s
theorem Sl.put_put (s : Sl) (i : Nat) (a b : List Nat) : (s.put i a).put i b = s.put i b := by
  unfold Sl.put
  simp
theorem rem_drop {s : Sl} (hs : s.Ok) {i : Nat} (hi : i < s.ls.length) {j x : Nat} (h : (s.at_ i)[j]? = some x) : (s.put i ((s.at_ i).drop j)).rem (x : Int) = s.put i ((s.at_ i).drop (j + 1)) ∧ (s.put i ((s.at_ i).drop j)).remE (x : Int) = 0 ∧ (s.put i ((s.at_ i).drop j)).whi (x : Int) = some i ∧ ∀ fl pv nx sz, SRep (s.put i ((s.at_ i).drop j)) fl pv nx sz → pv x = s.cells + i := by
  have hok := ok_drop hs hi j
  obtain ⟨hj, e⟩ := List.getElem?_eq_some_iff.1 h
  have hd : (s.at_ i).drop j = x :: (s.at_ i).drop (j + 1) := by rw [List.drop_eq_getElem_cons hj, e]
  have ha : (s.put i ((s.at_ i).drop j)).at_ i = x :: (s.at_ i).drop (j + 1) := by rw [Sl.at_put hi, if_pos rfl, hd]
  have hm : x ∈ (s.put i ((s.at_ i).drop j)).at_ i := by rw [ha]; exact List.mem_cons_self ..
  have hw : (s.put i ((s.at_ i).drop j)).whr x = some i := (Sl.whr_some hok).2 hm
  have hwi : (s.put i ((s.at_ i).drop j)).whi (x : Int) = some i := by
    unfold Sl.whi
    rw [if_pos (by omega)]
    simpa using hw
  refine ⟨?_, ?_, hwi, fun fl pv nx sz hr => ?_⟩
  · unfold Sl.rem
    rw [hwi]
    show Sl.put _ i _ = _
    have hn := hok.nodup i
    rw [ha] at hn ⊢
    rw [Sl.put_put]
    have h9 : (x :: (s.at_ i).drop (j + 1)).filter (· != x) = (s.at_ i).drop (j + 1) := filter_mid (ys := []) hn
    show s.put i ((x :: _).filter (· != ((x : Int)).toNat)) = _
    rw [show ((x : Int)).toNat = x by omega, h9]
  · unfold Sl.remE
    have hc : (s.put i ((s.at_ i).drop j)).hasC (x : Int) = true := hasC_iff.2 ⟨by omega, by have := hok.low i x hm; omega⟩
    rw [if_pos hc, show ((x : Int)).toNat = x by omega, hw]
    rfl
  · have := hr.ring i (by rw [Sl.put_len]; exact hi)
    rw [ha] at this
    exact this.2.1
theorem SSt.remove {wb W : World} {x : Nat} {X : Nat → Prop} {p : Nat} {s : Sl} {A b : Nat} (h : SSt wb X W p s A (some (b, x))) (hs : s.Fit) (o : Nat) (hw : (s.whi (x : Int)).isSome = true) (ho : ∀ fl pv nx sz, SRep s fl pv nx sz → pv x = o) :
    Calls Try.prog 13 #[.pointer (some ⟨p, 0, none⟩), .int .i64 (x : Int)] W fun e w' => e = .returned (.int .i64 (s.remE (x : Int))) ∧ SSt wb X w' p (s.rem (x : Int)) A (some (b, o)) ∧ ∀ k, X k → w'.heap[k]? = W.heap[k]? := by
  obtain ⟨F, hp, h1, h2, h3⟩ := h
  have hd := pa_remove hs A (some (b, x)) (x : Int) o fun fl pv nx sz hr y e q => by
    injection e with e
    subst e
    exact (ho fl pv nx sz hr).symm
  refine (hd W p F hp).mono ?_
  rintro e w' ⟨rfl, F', hp', he⟩
  have e1 : (if (s.whi (x : Int)).isSome then wkCut ((x : Int)).toNat o (some (b, x)) else some (b, x)) = some (b, o) := by
    rw [if_pos hw, show ((x : Int)).toNat = x by omega]
    unfold wkCut
    dsimp only
    rw [if_pos rfl]
  rw [e1] at hp'
  exact ⟨rfl, SSt.turned hp h1 h2 h3 hp' he.kept he.sub⟩
theorem put_self {s : Sl} {i : Nat} (hi : i < s.ls.length) : s.put i ((s.at_ i).drop 0) = s := by
  obtain ⟨ls, m⟩ := s
  have hi : i < ls.length := hi
  unfold Sl.put Sl.at_
  simp [List.getElem?_eq_getElem hi]
section
variable {wb w : World} {X : Nat → Prop} {p q : Nat} {s : Sl}
set_option maxHeartbeats 4000000 in
theorem emptied_in (hs : s.Fit) (i : Nat) (hi : i < s.ls.length) (h : TwoD wb X w p q s s) :
    Calls Try.prog 15 #[.pointer (some ⟨p, 0, none⟩), .pointer (some ⟨q, 0, none⟩), .int .i64 (i : Int)] w fun e w' => e = .returned (.bool true) ∧ TwoD wb X w' p q (s.put i []) (s.put i []) ∧ ∀ k, X k → w'.heap[k]? = w.heap[k]? := by
  have HS := Lib.hid hs
  have HXL := Lib.hid h.lt
  have HBW := Lib.hid h.below
  have hB1 : Below w.heap.size w (((w.alloc (.cells #[.pointer (some ⟨p, 0, none⟩)] 24)).alloc (.cells #[.pointer (some ⟨q, 0, none⟩)] 28)).alloc (.cells #[.bool false] 4)) := ((below_alloc w _).alloc (below_alloc w _).size _).alloc ((below_alloc w _).alloc (below_alloc w _).size _).size _
  have hz1 : (((w.alloc (.cells #[.pointer (some ⟨p, 0, none⟩)] 24)).alloc (.cells #[.pointer (some ⟨q, 0, none⟩)] 28)).alloc (.cells #[.bool false] 4)).heap.size = w.heap.size + 3 := by simp
  obtain ⟨b3, hb3⟩ : ∃ b, b = w.heap.size := ⟨_, rfl⟩
  have HM1 : Hid (Mem w (((w.alloc (.cells #[.pointer (some ⟨p, 0, none⟩)] 24)).alloc (.cells #[.pointer (some ⟨q, 0, none⟩)] 28)).alloc (.cells #[.bool false] 4)) [(b3, .cells #[.pointer (some ⟨p, 0, none⟩)] 24 (0, 0)), (b3 + 1, .cells #[.pointer (some ⟨q, 0, none⟩)] 28 (0, 0)), (b3 + 2, .cells #[.bool false] 4 (0, 0))]) := Lib.hid (by
    have h := ((((Mem.nil w).alloc (.cells #[.pointer (some ⟨p, 0, none⟩)] 24)).alloc (.cells #[.pointer (some ⟨q, 0, none⟩)] 28)).alloc (.cells #[.bool false] 4))
    have r1 : (w.alloc (.cells #[.pointer (some ⟨p, 0, none⟩)] 24)).heap.size = w.heap.size + 1 := by simp
    have r2 : ((w.alloc (.cells #[.pointer (some ⟨p, 0, none⟩)] 24)).alloc (.cells #[.pointer (some ⟨q, 0, none⟩)] 28)).heap.size = w.heap.size + 2 := by simp
    rw [r1, r2, ← hb3] at h
    exact h)
  have HT1 : Hid (TwoD wb (Or2 X (fun k => k = b3 ∨ k = b3 + 1 ∨ k = b3 + 2)) (((w.alloc (.cells #[.pointer (some ⟨p, 0, none⟩)] 24)).alloc (.cells #[.pointer (some ⟨q, 0, none⟩)] 28)).alloc (.cells #[.bool false] 4)) p q s s) := Lib.hid (h.more hB1 fun k hk => by rw [hz1]; omega)
  have HB1 := Lib.hid hB1
  have HBV := Lib.hid hb3
  clear hs h hB1 hz1
  refine (callsIn_wide (n := 13)).1 ?_
  refine callsIn_of_wp_marks Try.func15 rfl trivial ?_ rfl
  refine wpIn_wide.2 ?_
  simp only [Try.ntmps15, List.size_toArray, List.length_cons, List.length_nil, Nat.reduceAdd, Nat.reduceSub, Array.replicate_succ, Array.replicate_zero, List.push_toArray, List.append_toArray, List.nil_append, List.cons_append]
  go_upto_region 1 with fail
  change Code.wp _ _ _ _ (((w.alloc (.cells #[.pointer (some ⟨p, 0, none⟩)] 24)).alloc (.cells #[.pointer (some ⟨q, 0, none⟩)] 28)).alloc (.cells #[.bool false] 4))
  generalize ((w.alloc (.cells #[.pointer (some ⟨p, 0, none⟩)] 24)).alloc (.cells #[.pointer (some ⟨q, 0, none⟩)] 28)).alloc (.cells #[.bool false] 4) = u at *
  rw [← hb3]
  clear hb3
  have x3 : u.cell? ⟨b3, 0, none⟩ = some (.pointer (some ⟨p, 0, none⟩)) := blk_cell (HM1.out.get 0 rfl) 0
  have hfn : ∀ (lb : Array Value) (W : World), (binOp BinOp.eql 46 (.func (.func 33) #[] lb) .nilFunc).run Try.prog W = .ok (.bool false) W := fun lb W => by kernel_rfl
  go_upto_region 3 with (first
    | (go_at_call 19
       refine (pof_any u _ _).mono ?_
       rintro e v1 ⟨rfl, hv1⟩
       have HC1 : Hid (Below u.heap.size u v1) := Lib.hid (by rw [hv1]; exact (below_alloc u _).alloc (below_alloc u _).size _)
       clear hv1 x3))
  have HM2 := Lib.hid (HM1.out.step HC1.out)
  have HT2 := Lib.hid (HT1.out.step HC1.out)
  have HB2 := Lib.hid (HB1.out.trans (HC1.out.mono HB1.out.size))
  clear HM1 HT1 HB1 HC1
  have x3 : v1.cell? ⟨b3, 0, none⟩ = some (.pointer (some ⟨p, 0, none⟩)) := blk_cell (HM2.out.get 0 rfl) 0
  obtain ⟨lb1, hlb1⟩ : ∃ lb : Array Value, lb = #[.pointer (some ⟨u.heap.size, 0, none⟩), .pointer (some ⟨u.heap.size + 1, 0, none⟩)] := ⟨_, rfl⟩
  rw [← hlb1]
  clear hlb1
  go_wp2_with (first
    | (go_at_call 19
       refine (pof_any v1 _ _).mono ?_
       rintro e v5 ⟨rfl, hv5⟩
       have HV5 := Lib.hid hv5
       clear hv5 x3))
  obtain ⟨bp, hbp⟩ : ∃ b, b = v1.heap.size := ⟨_, rfl⟩
  have HBB : Hid (Below v1.heap.size v1 v5) := Lib.hid (by rw [HV5.out]; exact (below_alloc v1 _).alloc (below_alloc v1 _).size _)
  have hz5 : v5.heap.size = bp + 2 := by rw [HV5.out, hbp]; simp
  have HP5 : Hid (v5.heap[bp]? = some (.cells #[.pointer (some ⟨p, 0, none⟩)] 24 (0, 0))) := Lib.hid (by
    rw [HV5.out, hbp]
    exact blk_old (heap_alloc_new v1 _) _)
  have HW5 : Hid (v5.heap[bp + 1]? = some (.cells #[.int .i64 (i : Int)] 3 (0, 0))) := Lib.hid (by
    rw [HV5.out, hbp]
    have h := heap_alloc_new (v1.alloc (.cells #[.pointer (some ⟨p, 0, none⟩)] 24)) (.cells #[.int .i64 (i : Int)] 3)
    have hz : (v1.alloc (.cells #[.pointer (some ⟨p, 0, none⟩)] 24)).heap.size = v1.heap.size + 1 := by simp
    rwa [hz] at h)
  have HM5 := Lib.hid (HM2.out.step HBB.out)
  have HB5 := Lib.hid (HB2.out.trans (HBB.out.mono HB2.out.size))
  obtain ⟨X1, hX1⟩ : ∃ X1, X1 = Or2 X (fun k => k = b3 ∨ k = b3 + 1 ∨ k = b3 + 2) := ⟨_, rfl⟩
  rw [← hX1] at HT2
  obtain ⟨G, hG1, hG2, A, hG3⟩ := HT2.out
  have HLT : Hid (∀ k, Or2 X1 G k → k < bp) := Lib.hid fun k r => by rw [hbp]; exact hG3.lt k r
  have HS5 : Hid (SSt wb (Or2 (Or2 X1 G) (fun k => k = bp ∨ k = bp + 1)) v5 p s A none) := Lib.hid (hG3.more HBB.out fun k hk => by omega)
  have HR5 := Lib.hid (hG1.step HBB.out)
  have HG2 := Lib.hid hG2
  have HXX : Hid (∀ k, X k → X1 k ∧ k < b3) := Lib.hid fun k r => ⟨by rw [hX1]; exact .inl r, by rw [HBV.out]; exact HXL.out k r⟩
  have HXV : Hid (X1 b3 ∧ X1 (b3 + 1) ∧ X1 (b3 + 2)) := Lib.hid (by
    rw [hX1]
    exact ⟨.inr (.inl rfl), .inr (.inr (.inl rfl)), .inr (.inr (.inr rfl))⟩)
  have HWBv : Hid (wb.heap.size ≤ b3) := Lib.hid (by rw [HBV.out]; exact HBW.out.size)
  have HWB5 : Hid (wb.heap.size ≤ v5.heap.size) := Lib.hid HS5.out.below.size
  rw [← hbp]
  clear HV5 HBB HT2 HM2 HB2 hbp hX1 hG1 hG2 hG3
  have E0 : s.put i ((s.at_ i).drop ([] : List Nat).length) = s := put_self hi
  refine (wpIn_wide (n := 13)).1 ?_
  refine wpIn_rangeFunc_U (γ := Nat × Nat) (α := Nat) (n := 13) rfl (by omega) (gf := 33) (lb := #[.pointer (some ⟨bp, 0, none⟩), .pointer (some ⟨bp + 1, 0, none⟩)]) rfl trivial (fun args w => enters_of Try.func33 (by kernel_rfl) rfl args w)
    (pof_it wb p (s.at_ i) (fun j => s.put i ((s.at_ i).drop j)) (fun _ => s.cells + i) s.cells s.ls.length i (walk_cut HS.out.ok hi) HS.out.m HS.out.n hi bp (bp + 1)) (fun _ => rfl) (Or2 X1 G) (fun k => k = v5.heap.size ∨ k = v5.heap.size + 1) (fun k q => by have := HLT.out k q; omega) rfl
    ?hY ?hA ?hZd ?hZs ?hZ0
    (fun Xi pre U => ∃ G', Xi = Or2 X1 G' ∧ RS U q (s.put i ((s.at_ i).drop pre.length)) G' ∧ (∀ k, G' k → wb.heap.size ≤ k ∧ ¬ X1 k) ∧ (∀ k, X k → U.heap[k]? = w.heap[k]?) ∧ U.heap[b3]? = some (.cells #[.pointer (some ⟨p, 0, none⟩)] 24 (0, 0)) ∧ U.heap[b3 + 1]? = some (.cells #[.pointer (some ⟨q, 0, none⟩)] 28 (0, 0)) ∧ U.heap[b3 + 2]? = some (.cells #[.bool false] 4 (0, 0)))
    (fun _ _ _ _ => False) ?hI ?hIx ⟨G, rfl, (by rw [E0]; exact HR5.out), HG2.out, fun k r => HB5.out.block k (HXL.out k r), HM5.out.get 0 rfl, HM5.out.get 1 rfl, HM5.out.get 2 rfl⟩
    (fun x => { tmps := #[.pointer (some ⟨p, 0, none⟩), .pointer (some ⟨q, 0, none⟩), .int .i64 (i : Int), .pointer (some ⟨b3, 0, none⟩), .pointer (some ⟨b3 + 1, 0, none⟩), undef, .pointer (some ⟨b3 + 2, 0, none⟩), .int .i64 (x : Int), .pointer (some ⟨p, 0, none⟩), .int .i64 (i : Int), .func (.func 33) #[] lb1, .bool false, .pointer (some ⟨p, 0, none⟩), .int .i64 (i : Int), .func (.func 33) #[] #[.pointer (some ⟨bp, 0, none⟩), .pointer (some ⟨bp + 1, 0, none⟩)], .int .i64 (x : Int), undef, undef, undef, undef, undef, undef, undef, undef, undef, undef, undef, undef, undef, undef, undef], defers := [] }) ?assign ?body ?done ?stop
  case hY => exact fun g X2 pre x U l1 o1 h1 h2 h3 => ⟨h3.1, h3.2.put (Nat.le_trans HWB5.out h1) h2 o1⟩
  case hA => exact fun g X2 pre U l1 o1 h1 h2 h3 => SSt.put h3 (Nat.le_trans HWB5.out h1) h2 o1
  case hZd =>
    rintro X2 pre U l1 o1 h1 h2 ⟨h3, A', h4⟩
    exact ⟨h3, A', h4.put (Nat.le_trans HWB5.out h1) h2 o1⟩
  case hZs =>
    rintro X2 pre U l1 o1 h1 h2 ⟨h3, A', h4⟩
    exact ⟨h3, A', h4.put (Nat.le_trans HWB5.out h1) h2 o1⟩
  case hZ0 =>
    intro o1
    have hb2 : Below v5.heap.size v5 ((v5.alloc (.deferred (some []))).alloc o1) := (below_alloc v5 _).alloc (below_alloc v5 _).size _
    have hs0 := SSt.less (Y := Or2 (Or2 (Or2 X1 G) (fun k => k = v5.heap.size ∨ k = v5.heap.size + 1)) (fun k => k = bp ∨ k = bp + 1)) (HS5.out.more (Y := fun k => k = v5.heap.size ∨ k = v5.heap.size + 1) hb2 fun k hk => by simp; omega) fun k hk => by
        rcases hk with (hk | hk) | hk
        · exact .inl (.inl hk)
        · exact .inr hk
        · exact .inl (.inr hk)
    refine ⟨⟨A, by show SSt _ _ _ _ (s.put i ((s.at_ i).drop 0)) _ _; rw [put_self hi]; exact hs0⟩, fun k hk hx => ?_, (hb2.block bp (lt_heap HP5.out)).trans HP5.out, (hb2.block (bp + 1) (lt_heap HW5.out)).trans HW5.out⟩
    · have hp5 := lt_heap HW5.out
      rcases hx with hx | hx
      · have := HLT.out k hx
        omega
      · omega
  case hI =>
    rintro Xi s1 U U' ⟨G', rfl, h1, h2, h3, h4, h5, h6⟩ hs hk
    exact ⟨G', rfl, h1.blocks (fun k r => Nat.lt_of_lt_of_le (h1.old k r) hs) fun k r => hk k (.inr r), h2, fun k r => (hk k (.inl (HXX.out k r).1)).trans (h3 k r), (hk b3 (.inl HXV.out.1)).trans h4, (hk (b3 + 1) (.inl HXV.out.2.1)).trans h5, (hk (b3 + 2) (.inl HXV.out.2.2)).trans h6⟩
  case hIx => exact fun _ _ _ _ _ h _ _ => h.elim
  case assign =>
    intro l1 x U K hK
    unfold nEnc
    gi_wp2
    simpa using hK
  case body =>
    rintro lk g Xi K pre x U ⟨G', rfl, h1, h2, h3, h4, h5, h6⟩ ⟨hpre, hst⟩ hK
    have hLx : (s.at_ i)[pre.length]? = some x := by
      obtain ⟨t, ht⟩ := hpre
      rw [← ht]
      simp
    obtain ⟨r1, r2, r3, r4⟩ := rem_drop HS.out.ok hi hLx
    have hfit : (s.put i ((s.at_ i).drop pre.length)).Fit := ⟨ok_drop HS.out.ok hi _, HS.out.m, by rw [Sl.put_len]; exact HS.out.n⟩
    have hrm := hst.remove hfit (s.cells + i) (by rw [r3]; rfl) r4
    rw [r1, r2] at hrm
    have HRM := Lib.hid hrm
    have HRR : Hid (∀ V, RS V q (s.put i ((s.at_ i).drop pre.length)) G' → Calls Try.prog 14 #[.pointer (some ⟨q, 0, none⟩), .int .i64 (x : Int)] V fun e w' => e = .returned (.int .i64 0) ∧ ∃ G2, RS w' q (s.put i ((s.at_ i).drop (pre.length + 1))) G2 ∧ Ext2 G' G2 V w') := Lib.hid fun V hV => by
      obtain ⟨A0, c0, rows, hx⟩ := hV
      have := rremove_any hx hfit (x : Int)
      rwa [r1, r2] at this
    have HR1 := Lib.hid h1
    have HGG := Lib.hid h2
    have HH3 := Lib.hid h3
    have HH4 := Lib.hid h4
    have HH5 := Lib.hid h5
    have HH6 := Lib.hid h6
    have HKK := Lib.hid hK
    have HLU := Lib.hid hst.lt
    have x3 : U.cell? ⟨b3, 0, none⟩ = some (.pointer (some ⟨p, 0, none⟩)) := blk_cell h4 0
    have hlen : (pre ++ [x]).length = pre.length + 1 := by rw [List.length_append]; rfl
    have HLN := Lib.hid hlen
    clear h1 h2 h3 h4 h5 h6 hK hst hrm r1 r2 r3 r4 hfit hLx hpre hlen
    gi_wp2_with (first
      | (refine ⟨trivial, ?_⟩
         gi_at_call 13
         refine (CallsIn.inRound lk (callsIn_wide.2 HRM.out)).mono ?_
         rintro e u1 ⟨rfl, hs1, hk1⟩
         have HS1 := Lib.hid hs1
         have HK1 := Lib.hid hk1
         have HRR1 := Lib.hid (HRR.out u1 (HR1.out.blocks (fun k r => HS1.out.lt k (.inl (.inr r))) fun k r => hk1 k (.inl (.inr r))))
         have x4 : u1.cell? ⟨b3 + 1, 0, none⟩ = some (.pointer (some ⟨q, 0, none⟩)) := blk_cell ((hk1 (b3 + 1) (.inl (.inl HXV.out.2.1))).trans HH5.out) 0
         clear hs1 hk1 x3)
      | (refine ⟨trivial, ?_⟩
         gi_at_call 14
         refine (CallsIn.inRound lk (callsIn_wide.2 HRR1.out)).mono ?_
         rintro e u2 ⟨rfl, G2, hr2, he2⟩
         have HR2 := Lib.hid hr2
         have HE2 := Lib.hid he2
         clear hr2 he2 x4))
    obtain ⟨q1, q2⟩ := HS1.out.regrow HE2.out fun k r => (HGG.out k r).1
    have hk2 : ∀ k, X1 k ∨ K k → u2.heap[k]? = U.heap[k]? := fun k r => by
      have hng : ¬ G' k := fun hg => by
        rcases r with r | r
        · exact (HGG.out k hg).2 r
        · exact HKK.out k r (.inr hg)
      refine (q2 k r hng).trans (HK1.out k ?_)
      rcases r with r | r
      · exact .inl (.inl r)
      · exact .inr r
    have hnew : ∀ k, G2 k → G' k ∨ u1.heap.size ≤ k := fun k r => (HE2.out.sub k r).imp id fun r => r.1
    refine ⟨Or2 X1 G2, ⟨G2, rfl, by rw [HLN.out]; exact HR2.out, fun k r => ?_, fun k r => (hk2 k (.inl (HXX.out k r).1)).trans (HH3.out k r), (hk2 b3 (.inl HXV.out.1)).trans HH4.out, (hk2 (b3 + 1) (.inl HXV.out.2.1)).trans HH5.out, (hk2 (b3 + 2) (.inl HXV.out.2.2)).trans HH6.out⟩, ?_, fun k r => ⟨fun hx => ?_, hk2 k (.inr r)⟩⟩
    · rcases hnew k r with e | e
      · exact HGG.out k e
      · refine ⟨Nat.le_trans HS1.out.below.size e, fun hx => ?_⟩
        have := HS1.out.lt k (.inl (.inl hx))
        omega
    · show SSt wb (Or2 (Or2 X1 G2) K) u2 p (s.put i ((s.at_ i).drop (pre ++ [x]).length)) g.1 (some (g.2, s.cells + i))
      rw [HLN.out]
      exact q1
    · rcases hx with hx | hx
      · exact HKK.out k r (.inl hx)
      · rcases hnew k hx with e | e
        · exact HKK.out k r (.inr e)
        · have := HS1.out.lt k (.inr r)
          omega
  case done =>
    rintro Xi xs U ⟨G', rfl, h1, h2, h3, h4, h5, h6⟩ ⟨rfl, A', hz⟩ hd hK
    have x4 : U.cell? ⟨b3 + 1, 0, none⟩ = some (.pointer (some ⟨q, 0, none⟩)) := blk_cell h5 0
    have HH3 := Lib.hid h3
    have HZZ := Lib.hid hz
    have HRR := Lib.hid h1
    have HGG := Lib.hid h2
    obtain ⟨A0, c0, rows, hrx⟩ := h1
    have HOF := Lib.hid (rof_any hrx (i : Int))
    have HM6 := Lib.hid h6
    have HKD := Lib.hid hK
    have HDD := Lib.hid hd
    have HMT : Hid ((s.put i ((s.at_ i).drop (s.at_ i).length)).of_ (i : Int) = []) := Lib.hid (by rw [Sl.of_in, Sl.at_put hi, if_pos rfl, List.drop_length])
    clear h2 h3 h4 h5 h6 hz hd hK hrx
    go_wp2_with (first
      | (go_at_call 30
         refine HOF.out.mono ?_
         rintro e U2 ⟨v, rfl, ⟨A1, c1, rfl, _, _, _⟩, hb⟩
         have HBU := Lib.hid hb
         have y6 : U2.cell? ⟨b3 + 2, 0, none⟩ = some (.bool false) := blk_cell ((hb.block (b3 + 2) (lt_heap HM6.out)).trans HM6.out) 0
         have z6 : U2.frozen? ⟨b3 + 2, 0, none⟩ = false := blk_free ((hb.block (b3 + 2) (lt_heap HM6.out)).trans HM6.out) 0
         rw [HMT.out]
         simp only [List.length_nil] at *
         clear hb))
    have hne : v5.heap.size ≠ b3 + 2 := by
      have := lt_heap (HM5.out.get 2 rfl)
      omega
    have hK2 : (U2.setCell ⟨b3 + 2, 0, none⟩ (.bool true)).heap[v5.heap.size]? = some (.deferred (some [])) := (Below.heap_setCell U2 ⟨b3 + 2, 0, none⟩ _ v5.heap.size hne).trans ((HBU.out.block _ (Array.getElem?_eq_some_iff.1 HKD.out).1).trans HKD.out)
    refine ⟨by simp, .inl ⟨_, _, rfl, run_takeDeferred hK2, ?_⟩⟩
    have hr : ((U2.setCell ⟨b3 + 2, 0, none⟩ (.bool true)).putObj v5.heap.size (.deferred none)).heap[b3 + 2]? = some (.cells #[.bool true] 4 (0, 0)) := (World.putObj_heap_other (Ne.symm hne)).trans (blk_set ((HBU.out.block (b3 + 2) (lt_heap HM6.out)).trans HM6.out) 0 _)
    have hb3v : b3 + 2 < v5.heap.size := lt_heap (HM5.out.get 2 rfl)
    have hT : TwoD wb X1 U p q (s.put i ((s.at_ i).drop (s.at_ i).length)) (s.put i ((s.at_ i).drop (s.at_ i).length)) := ⟨G', HRR.out, HGG.out, A', (HZZ.out.less fun k r => .inl r)⟩
    have hT0 : TwoD wb (Or2 X1 (fun k => k = v5.heap.size)) U2 p q (s.put i ((s.at_ i).drop (s.at_ i).length)) (s.put i ((s.at_ i).drop (s.at_ i).length)) := ⟨G', HRR.out.step HBU.out, fun k r => ⟨(HGG.out k r).1, fun hx => ?_⟩, A', (HZZ.out.step HBU.out).less fun k r => ?_⟩
    · have hT2 : TwoD wb (Or2 X1 (fun k => k = v5.heap.size)) ((U2.setCell ⟨b3 + 2, 0, none⟩ (.bool true)).putObj v5.heap.size (.deferred none)) p q (s.put i ((s.at_ i).drop (s.at_ i).length)) (s.put i ((s.at_ i).drop (s.at_ i).length)) := (hT0.kept (kept_set (b3 + 2) _) fun k e _ => by subst e; exact ⟨.inl HXV.out.2.2, by have := HWBv.out; omega⟩).kept (kept_put v5.heap.size _) fun k e _ => by subst e; exact ⟨.inr rfl, HWB5.out⟩
      rw [show s.put i ((s.at_ i).drop (s.at_ i).length) = s.put i [] by rw [List.drop_length]] at hT2
      refine ⟨_, results_flag rfl _ _ (b3 + 2) true rfl (blk_cell hr 0), rfl, hT2.less fun k r => .inl (HXX.out k r).1, fun k r => ?_⟩
      have hk := (HXX.out k r).2
      have hkU : k < U.heap.size := hT.lt k (HXX.out k r).1
      exact (World.putObj_heap_other (by omega)).trans ((Below.heap_setCell U2 ⟨b3 + 2, 0, none⟩ _ k (by show k ≠ b3 + 2; omega)).trans ((HBU.out.block k hkU).trans (HH3.out k r)))
    · rcases hx with hx | hx
      · exact (HGG.out k r).2 hx
      · exact HDD.out k (.inl hx) (.inr r)
    · rcases r with (r | r) | r
      · exact .inl (.inl r)
      · exact .inr (.inl r)
      · exact .inl (.inr r)
  case stop => exact fun _ _ _ _ h => h.elim
set_option maxHeartbeats 4000000 in
theorem emptied_out (hs : s.Fit) (l : Int) (hl : ¬ (0 ≤ l ∧ l < (s.ls.length : Int))) (h : TwoD wb X w p q s s) :
    Calls Try.prog 15 #[.pointer (some ⟨p, 0, none⟩), .pointer (some ⟨q, 0, none⟩), .int .i64 l] w fun e w' => e = .returned (.bool true) ∧ TwoD wb X w' p q s s ∧ ∀ k, X k → w'.heap[k]? = w.heap[k]? := by
  have HS := Lib.hid hs
  have HXL := Lib.hid h.lt
  have HBW := Lib.hid h.below
  have hB1 : Below w.heap.size w (((w.alloc (.cells #[.pointer (some ⟨p, 0, none⟩)] 24)).alloc (.cells #[.pointer (some ⟨q, 0, none⟩)] 28)).alloc (.cells #[.bool false] 4)) := ((below_alloc w _).alloc (below_alloc w _).size _).alloc ((below_alloc w _).alloc (below_alloc w _).size _).size _
  have hz1 : (((w.alloc (.cells #[.pointer (some ⟨p, 0, none⟩)] 24)).alloc (.cells #[.pointer (some ⟨q, 0, none⟩)] 28)).alloc (.cells #[.bool false] 4)).heap.size = w.heap.size + 3 := by simp
  obtain ⟨b3, hb3⟩ : ∃ b, b = w.heap.size := ⟨_, rfl⟩
  have HM1 : Hid (Mem w (((w.alloc (.cells #[.pointer (some ⟨p, 0, none⟩)] 24)).alloc (.cells #[.pointer (some ⟨q, 0, none⟩)] 28)).alloc (.cells #[.bool false] 4)) [(b3, .cells #[.pointer (some ⟨p, 0, none⟩)] 24 (0, 0)), (b3 + 1, .cells #[.pointer (some ⟨q, 0, none⟩)] 28 (0, 0)), (b3 + 2, .cells #[.bool false] 4 (0, 0))]) := Lib.hid (by
    have h := ((((Mem.nil w).alloc (.cells #[.pointer (some ⟨p, 0, none⟩)] 24)).alloc (.cells #[.pointer (some ⟨q, 0, none⟩)] 28)).alloc (.cells #[.bool false] 4))
    have r1 : (w.alloc (.cells #[.pointer (some ⟨p, 0, none⟩)] 24)).heap.size = w.heap.size + 1 := by simp
    have r2 : ((w.alloc (.cells #[.pointer (some ⟨p, 0, none⟩)] 24)).alloc (.cells #[.pointer (some ⟨q, 0, none⟩)] 28)).heap.size = w.heap.size + 2 := by simp
    rw [r1, r2, ← hb3] at h
    exact h)
  have HT1 : Hid (TwoD wb (Or2 X (fun k => k = b3 ∨ k = b3 + 1 ∨ k = b3 + 2)) (((w.alloc (.cells #[.pointer (some ⟨p, 0, none⟩)] 24)).alloc (.cells #[.pointer (some ⟨q, 0, none⟩)] 28)).alloc (.cells #[.bool false] 4)) p q s s) := Lib.hid (h.more hB1 fun k hk => by rw [hz1]; omega)
  have HB1 := Lib.hid hB1
  have HBV := Lib.hid hb3
  clear hs h hB1 hz1
  refine (callsIn_wide (n := 13)).1 ?_
  refine callsIn_of_wp_marks Try.func15 rfl trivial ?_ rfl
  refine wpIn_wide.2 ?_
  simp only [Try.ntmps15, List.size_toArray, List.length_cons, List.length_nil, Nat.reduceAdd, Nat.reduceSub, Array.replicate_succ, Array.replicate_zero, List.push_toArray, List.append_toArray, List.nil_append, List.cons_append]
  go_upto_region 1 with fail
  change Code.wp _ _ _ _ (((w.alloc (.cells #[.pointer (some ⟨p, 0, none⟩)] 24)).alloc (.cells #[.pointer (some ⟨q, 0, none⟩)] 28)).alloc (.cells #[.bool false] 4))
  generalize ((w.alloc (.cells #[.pointer (some ⟨p, 0, none⟩)] 24)).alloc (.cells #[.pointer (some ⟨q, 0, none⟩)] 28)).alloc (.cells #[.bool false] 4) = u at *
  rw [← hb3]
  clear hb3
  have x3 : u.cell? ⟨b3, 0, none⟩ = some (.pointer (some ⟨p, 0, none⟩)) := blk_cell (HM1.out.get 0 rfl) 0
  have hfn : ∀ (lb : Array Value) (W : World), (binOp BinOp.eql 46 (.func (.func 33) #[] lb) .nilFunc).run Try.prog W = .ok (.bool false) W := fun lb W => by kernel_rfl
  go_upto_region 3 with (first
    | (go_at_call 19
       refine (pof_any u _ _).mono ?_
       rintro e v1 ⟨rfl, hv1⟩
       have HC1 : Hid (Below u.heap.size u v1) := Lib.hid (by rw [hv1]; exact (below_alloc u _).alloc (below_alloc u _).size _)
       clear hv1 x3))
  have HM2 := Lib.hid (HM1.out.step HC1.out)
  have HT2 := Lib.hid (HT1.out.step HC1.out)
  have HB2 := Lib.hid (HB1.out.trans (HC1.out.mono HB1.out.size))
  clear HM1 HT1 HB1 HC1
  have x3 : v1.cell? ⟨b3, 0, none⟩ = some (.pointer (some ⟨p, 0, none⟩)) := blk_cell (HM2.out.get 0 rfl) 0
  obtain ⟨lb1, hlb1⟩ : ∃ lb : Array Value, lb = #[.pointer (some ⟨u.heap.size, 0, none⟩), .pointer (some ⟨u.heap.size + 1, 0, none⟩)] := ⟨_, rfl⟩
  rw [← hlb1]
  clear hlb1
  go_wp2_with (first
    | (go_at_call 19
       refine (pof_any v1 _ _).mono ?_
       rintro e v5 ⟨rfl, hv5⟩
       have HV5 := Lib.hid hv5
       clear hv5 x3))
  obtain ⟨bp, hbp⟩ : ∃ b, b = v1.heap.size := ⟨_, rfl⟩
  have HBB : Hid (Below v1.heap.size v1 v5) := Lib.hid (by rw [HV5.out]; exact (below_alloc v1 _).alloc (below_alloc v1 _).size _)
  have hz5 : v5.heap.size = bp + 2 := by rw [HV5.out, hbp]; simp
  have HP5 : Hid (v5.heap[bp]? = some (.cells #[.pointer (some ⟨p, 0, none⟩)] 24 (0, 0))) := Lib.hid (by
    rw [HV5.out, hbp]
    exact blk_old (heap_alloc_new v1 _) _)
  have HW5 : Hid (v5.heap[bp + 1]? = some (.cells #[.int .i64 l] 3 (0, 0))) := Lib.hid (by
    rw [HV5.out, hbp]
    have h := heap_alloc_new (v1.alloc (.cells #[.pointer (some ⟨p, 0, none⟩)] 24)) (.cells #[.int .i64 l] 3)
    have hz : (v1.alloc (.cells #[.pointer (some ⟨p, 0, none⟩)] 24)).heap.size = v1.heap.size + 1 := by simp
    rwa [hz] at h)
  have HM5 := Lib.hid (HM2.out.step HBB.out)
  have HB5 := Lib.hid (HB2.out.trans (HBB.out.mono HB2.out.size))
  obtain ⟨X1, hX1⟩ : ∃ X1, X1 = Or2 X (fun k => k = b3 ∨ k = b3 + 1 ∨ k = b3 + 2) := ⟨_, rfl⟩
  rw [← hX1] at HT2
  obtain ⟨G, hG1, hG2, A, hG3⟩ := HT2.out
  have HLT : Hid (∀ k, Or2 X1 G k → k < bp) := Lib.hid fun k r => by rw [hbp]; exact hG3.lt k r
  have HS5 : Hid (SSt wb (Or2 (Or2 X1 G) (fun k => k = bp ∨ k = bp + 1)) v5 p s A none) := Lib.hid (hG3.more HBB.out fun k hk => by omega)
  have HR5 := Lib.hid (hG1.step HBB.out)
  have HG2 := Lib.hid hG2
  have HXX : Hid (∀ k, X k → X1 k ∧ k < b3) := Lib.hid fun k r => ⟨by rw [hX1]; exact .inl r, by rw [HBV.out]; exact HXL.out k r⟩
  have HXV : Hid (X1 b3 ∧ X1 (b3 + 1) ∧ X1 (b3 + 2)) := Lib.hid (by
    rw [hX1]
    exact ⟨.inr (.inl rfl), .inr (.inr (.inl rfl)), .inr (.inr (.inr rfl))⟩)
  have HWBv : Hid (wb.heap.size ≤ b3) := Lib.hid (by rw [HBV.out]; exact HBW.out.size)
  have HWB5 : Hid (wb.heap.size ≤ v5.heap.size) := Lib.hid HS5.out.below.size
  rw [← hbp]
  clear HV5 HBB HT2 HM2 HB2 hbp hX1 hG1 hG2 hG3
  refine (wpIn_wide (n := 13)).1 ?_
  refine wpIn_rangeFunc_U (γ := Nat × Nat) (α := Nat) (n := 13) rfl (by omega) (gf := 33) (lb := #[.pointer (some ⟨bp, 0, none⟩), .pointer (some ⟨bp + 1, 0, none⟩)]) rfl trivial (fun args w => enters_of Try.func33 (by kernel_rfl) rfl args w)
    (pof_none (ST wb p s) (some ⟨p, 0, none⟩) l (fun X W W' ⟨A, h⟩ hb => ⟨A, h.step hb⟩) (fun X X' W ⟨A, h⟩ q => ⟨A, h.less q⟩) (fun X W ⟨A, h⟩ => h.lt) (fun X W h => by
      obtain ⟨A, F, ⟨cA, B, cB, V, cV, fl, pv, nx, sz, hx, hr⟩, _⟩ := h
      have := hx.hasL l
      have e : (decide ((0 : Int) ≤ l) && decide (l < (s.ls.length : Int))) = false := by
        rw [Bool.and_eq_false_iff]
        simp only [decide_eq_false_iff_not]
        omega
      rwa [e] at this) bp (bp + 1) (fun _ _ _ _ _ => False) (fun _ _ _ _ => False) (fun _ _ _ => False)) (fun _ => rfl) (Or2 X1 G) (fun k => k = v5.heap.size ∨ k = v5.heap.size + 1) (fun k q => by have := HLT.out k q; omega) rfl
    ?hY ?hA ?hZd ?hZs ?hZ0
    (fun Xi pre U => ∃ G', Xi = Or2 X1 G' ∧ RS U q (s) G' ∧ (∀ k, G' k → wb.heap.size ≤ k ∧ ¬ X1 k) ∧ (∀ k, X k → U.heap[k]? = w.heap[k]?) ∧ U.heap[b3]? = some (.cells #[.pointer (some ⟨p, 0, none⟩)] 24 (0, 0)) ∧ U.heap[b3 + 1]? = some (.cells #[.pointer (some ⟨q, 0, none⟩)] 28 (0, 0)) ∧ U.heap[b3 + 2]? = some (.cells #[.bool false] 4 (0, 0)))
    (fun _ _ _ _ => False) ?hI ?hIx ⟨G, rfl, HR5.out, HG2.out, fun k r => HB5.out.block k (HXL.out k r), HM5.out.get 0 rfl, HM5.out.get 1 rfl, HM5.out.get 2 rfl⟩
    (fun x => { tmps := #[.pointer (some ⟨p, 0, none⟩), .pointer (some ⟨q, 0, none⟩), .int .i64 l, .pointer (some ⟨b3, 0, none⟩), .pointer (some ⟨b3 + 1, 0, none⟩), undef, .pointer (some ⟨b3 + 2, 0, none⟩), .int .i64 (x : Int), .pointer (some ⟨p, 0, none⟩), .int .i64 l, .func (.func 33) #[] lb1, .bool false, .pointer (some ⟨p, 0, none⟩), .int .i64 l, .func (.func 33) #[] #[.pointer (some ⟨bp, 0, none⟩), .pointer (some ⟨bp + 1, 0, none⟩)], .int .i64 (x : Int), undef, undef, undef, undef, undef, undef, undef, undef, undef, undef, undef, undef, undef, undef, undef], defers := [] }) ?assign ?body ?done ?stop
  case hY => exact fun g X2 pre x U l1 o1 h1 h2 h3 => h3.elim
  case hA => exact fun g X2 pre U l1 o1 h1 h2 h3 => h3.elim
  case hZd =>
    rintro X2 pre U l1 o1 h1 h2 ⟨h3, A', h4⟩
    exact ⟨h3, A', h4.put (Nat.le_trans HWB5.out h1) h2 o1⟩
  case hZs => exact fun X2 pre U l1 o1 h1 h2 h3 => h3.elim
  case hZ0 =>
    intro o1
    have hb2 : Below v5.heap.size v5 ((v5.alloc (.deferred (some []))).alloc o1) := (below_alloc v5 _).alloc (below_alloc v5 _).size _
    have hs0 := SSt.less (Y := Or2 (Or2 (Or2 X1 G) (fun k => k = v5.heap.size ∨ k = v5.heap.size + 1)) (fun k => k = bp ∨ k = bp + 1)) (HS5.out.more (Y := fun k => k = v5.heap.size ∨ k = v5.heap.size + 1) hb2 fun k hk => by simp; omega) fun k hk => by
        rcases hk with (hk | hk) | hk
        · exact .inl (.inl hk)
        · exact .inr hk
        · exact .inl (.inr hk)
    refine ⟨⟨A, hs0⟩, fun k hk hx => ?_, (hb2.block bp (lt_heap HP5.out)).trans HP5.out, (hb2.block (bp + 1) (lt_heap HW5.out)).trans HW5.out⟩
    · have hp5 := lt_heap HW5.out
      rcases hx with hx | hx
      · have := HLT.out k hx
        omega
      · omega
  case hI =>
    rintro Xi s1 U U' ⟨G', rfl, h1, h2, h3, h4, h5, h6⟩ hs hk
    exact ⟨G', rfl, h1.blocks (fun k r => Nat.lt_of_lt_of_le (h1.old k r) hs) fun k r => hk k (.inr r), h2, fun k r => (hk k (.inl (HXX.out k r).1)).trans (h3 k r), (hk b3 (.inl HXV.out.1)).trans h4, (hk (b3 + 1) (.inl HXV.out.2.1)).trans h5, (hk (b3 + 2) (.inl HXV.out.2.2)).trans h6⟩
  case hIx => exact fun _ _ _ _ _ h _ _ => h.elim
  case assign =>
    intro l1 x U K hK
    unfold nEnc
    gi_wp2
    simpa using hK
  case body => exact fun _ _ _ _ _ _ _ _ h _ => h.elim
  case done =>
    rintro Xi xs U ⟨G', rfl, h1, h2, h3, h4, h5, h6⟩ ⟨rfl, A', hz⟩ hd hK
    have x4 : U.cell? ⟨b3 + 1, 0, none⟩ = some (.pointer (some ⟨q, 0, none⟩)) := blk_cell h5 0
    have HH3 := Lib.hid h3
    have HZZ := Lib.hid hz
    have HRR := Lib.hid h1
    have HGG := Lib.hid h2
    obtain ⟨A0, c0, rows, hrx⟩ := h1
    have HOF := Lib.hid (rof_any hrx l)
    have HM6 := Lib.hid h6
    have HKD := Lib.hid hK
    have HDD := Lib.hid hd
    have HMT : Hid ((s).of_ l = []) := Lib.hid (Sl.of_no hl)
    clear h2 h3 h4 h5 h6 hz hd hK hrx
    go_wp2_with (first
      | (go_at_call 30
         refine HOF.out.mono ?_
         rintro e U2 ⟨v, rfl, ⟨A1, c1, rfl, _, _, _⟩, hb⟩
         have HBU := Lib.hid hb
         have y6 : U2.cell? ⟨b3 + 2, 0, none⟩ = some (.bool false) := blk_cell ((hb.block (b3 + 2) (lt_heap HM6.out)).trans HM6.out) 0
         have z6 : U2.frozen? ⟨b3 + 2, 0, none⟩ = false := blk_free ((hb.block (b3 + 2) (lt_heap HM6.out)).trans HM6.out) 0
         rw [HMT.out]
         simp only [List.length_nil] at *
         clear hb))
    have hne : v5.heap.size ≠ b3 + 2 := by
      have := lt_heap (HM5.out.get 2 rfl)
      omega
    have hK2 : (U2.setCell ⟨b3 + 2, 0, none⟩ (.bool true)).heap[v5.heap.size]? = some (.deferred (some [])) := (Below.heap_setCell U2 ⟨b3 + 2, 0, none⟩ _ v5.heap.size hne).trans ((HBU.out.block _ (Array.getElem?_eq_some_iff.1 HKD.out).1).trans HKD.out)
    refine ⟨by simp, .inl ⟨_, _, rfl, run_takeDeferred hK2, ?_⟩⟩
    have hr : ((U2.setCell ⟨b3 + 2, 0, none⟩ (.bool true)).putObj v5.heap.size (.deferred none)).heap[b3 + 2]? = some (.cells #[.bool true] 4 (0, 0)) := (World.putObj_heap_other (Ne.symm hne)).trans (blk_set ((HBU.out.block (b3 + 2) (lt_heap HM6.out)).trans HM6.out) 0 _)
    have hb3v : b3 + 2 < v5.heap.size := lt_heap (HM5.out.get 2 rfl)
    have hT : TwoD wb X1 U p q (s) (s) := ⟨G', HRR.out, HGG.out, A', (HZZ.out.less fun k r => .inl r)⟩
    have hT0 : TwoD wb (Or2 X1 (fun k => k = v5.heap.size)) U2 p q (s) (s) := ⟨G', HRR.out.step HBU.out, fun k r => ⟨(HGG.out k r).1, fun hx => ?_⟩, A', (HZZ.out.step HBU.out).less fun k r => ?_⟩
    · have hT2 : TwoD wb (Or2 X1 (fun k => k = v5.heap.size)) ((U2.setCell ⟨b3 + 2, 0, none⟩ (.bool true)).putObj v5.heap.size (.deferred none)) p q (s) (s) := (hT0.kept (kept_set (b3 + 2) _) fun k e _ => by subst e; exact ⟨.inl HXV.out.2.2, by have := HWBv.out; omega⟩).kept (kept_put v5.heap.size _) fun k e _ => by subst e; exact ⟨.inr rfl, HWB5.out⟩
      rw [show s = s from rfl] at hT2
      refine ⟨_, results_flag rfl _ _ (b3 + 2) true rfl (blk_cell hr 0), rfl, hT2.less fun k r => .inl (HXX.out k r).1, fun k r => ?_⟩
      have hk := (HXX.out k r).2
      have hkU : k < U.heap.size := hT.lt k (HXX.out k r).1
      exact (World.putObj_heap_other (by omega)).trans ((Below.heap_setCell U2 ⟨b3 + 2, 0, none⟩ _ k (by show k ≠ b3 + 2; omega)).trans ((HBU.out.block k hkU).trans (HH3.out k r)))
    · rcases hx with hx | hx
      · exact (HGG.out k r).2 hx
      · exact HDD.out k (.inl hx) (.inr r)
    · rcases r with (r | r) | r
      · exact .inl (.inl r)
      · exact .inr (.inl r)
      · exact .inl (.inr r)
  case stop => exact fun _ _ _ _ h => h.elim
theorem emptied_any (hs : s.Fit) (l : Int) (h : TwoD wb X w p q s s) :
    Calls Try.prog 15 #[.pointer (some ⟨p, 0, none⟩), .pointer (some ⟨q, 0, none⟩), .int .i64 l] w fun e w' => e = .returned (.bool true) ∧ TwoD wb X w' p q (s.emp l) (s.emp l) ∧ ∀ k, X k → w'.heap[k]? = w.heap[k]? := by
  unfold Sl.emp
  by_cases hl : 0 ≤ l ∧ l < (s.ls.length : Int)
  · rw [if_pos hl]
    obtain ⟨i, rfl⟩ := Int.eq_ofNat_of_zero_le hl.1
    exact emptied_in hs i (by omega) h
  · rw [if_neg hl]
    exact emptied_out hs l hl h
end
end Go.Proofs.Ythlnhkkjpjbmeaa
