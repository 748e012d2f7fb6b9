/- Ip6Chain, walked. -/
import Derived.Test.YtankpbehahopgaaI6k
import Derived.Test.YtankpbehahopgaaI6Blt
import Derived.Test.YtankpbehahopgaaRI6q
namespace Go.Proofs.Ytankpbehahopgaa
open Go.RowKit
/-- The header that a byte asks for; those of the bytes from a place on. -/
def hd6 (v : Int) : Int × Nat := if v % 3 = 0 then (43, (v / 3 % 4).toNat) else if v % 3 = 1 then (60, (v / 3 % 4).toNat) else (44, 0)
def hl6 (f : Nat → Int) (n i : Nat) : List (Int × Nat) := (List.range' i (n - i)).map fun k => hd6 (f k)
theorem hl6_end (f : Nat → Int) (n : Nat) : hl6 f n n = [] := by simp [hl6]
theorem hl6_step (f : Nat → Int) (n i : Nat) (h : i < n) : hl6 f n i = hd6 (f i) :: hl6 f n (i + 1) := by
  unfold hl6
  rw [show n - i = (n - (i + 1)) + 1 by omega, List.range'_succ, List.map_cons]
theorem hl6_len (f : Nat → Int) (n i : Nat) : (hl6 f n i).length = n - i := by simp [hl6]
theorem hd6_may (v : Int) (h : 0 ≤ v) : may6 (hd6 v) := by
  unfold hd6 may6
  split
  · exact ⟨.inl rfl, by show (v / 3 % 4).toNat ≤ 3; omega⟩
  · split
    · exact ⟨.inr (.inl rfl), by show (v / 3 % 4).toNat ≤ 3; omega⟩
    · exact ⟨.inr (.inr ⟨rfl, rfl⟩), by decide⟩
theorem hl6_may (f : Nat → Int) (hf : Byt f) (n i : Nat) : ∀ x, x ∈ hl6 f n i → may6 x := fun x hx => by
  unfold hl6 at hx
  obtain ⟨k, _, rfl⟩ := List.mem_map.1 hx
  exact hd6_may _ (hf k).1
theorem nxt6_byt {p : Int} (hp : 0 ≤ p ∧ p ≤ 255) {l : List (Int × Nat)} (h : ∀ x, x ∈ l → may6 x) : 0 ≤ nxt6 p l ∧ nxt6 p l ≤ 255 := by
  cases l with
  | nil => exact hp
  | cons x t =>
    have := h x (by simp)
    unfold may6 at this
    show 0 ≤ x.1 ∧ x.1 ≤ 255
    omega
theorem byts6_mem {p : Int} (hp : 0 ≤ p ∧ p ≤ 255) : ∀ (l : List (Int × Nat)), (∀ x, x ∈ l → may6 x) → ∀ v, v ∈ byts6 p l → 0 ≤ v ∧ v ≤ 255
  | [], _, v, hv => by simp [byts6] at hv
  | x :: t, h, v, hv => by
    have hn := nxt6_byt hp (l := t) (fun y hy => h y (by simp [hy]))
    have hx := (h x (by simp)).2
    have ih := byts6_mem hp t (fun y hy => h y (by simp [hy])) v
    simp only [byts6, List.cons_append, List.mem_cons, List.mem_append] at hv
    rcases hv with rfl | rfl | hv | hv
    · exact hn
    · omega
    · have := List.eq_of_mem_replicate hv
      omega
    · exact ih hv
theorem byts6_byt {p : Int} (hp : 0 ≤ p ∧ p ≤ 255) {l : List (Int × Nat)} (h : ∀ x, x ∈ l → may6 x) : Byt fun k => (byts6 p l).getD k 0 := fun k => by
  show 0 ≤ (byts6 p l).getD k 0 ∧ (byts6 p l).getD k 0 ≤ 255
  rw [List.getD_eq_getElem?_getD]
  cases e : (byts6 p l)[k]? with
  | none => simp
  | some v => exact byts6_mem hp l h v (List.mem_of_getElem? e)
theorem byts6_le {p : Int} : ∀ (l : List (Int × Nat)), (∀ x, x ∈ l → may6 x) → (byts6 p l).length ≤ 32 * l.length ∧ l.length ≤ (byts6 p l).length
  | [], _ => by simp [byts6]
  | x :: t, h => by
    have := byts6_le (p := p) t fun y hy => h y (by simp [hy])
    have := (h x (by simp)).2
    rw [byts6_len, List.length_cons]
    omega
theorem byts6_cat (p : Int) (x : Int × Nat) (t : List (Int × Nat)) (k : Nat) : (byts6 p (x :: t)).getD k 0 = cat (8 + 8 * x.2) (upd (upd (fun _ => 0) 0 (nxt6 p t)) 1 (x.2 : Int)) (fun k => (byts6 p t).getD k 0) k := by
  unfold cat
  by_cases h : k < 8 + 8 * x.2
  · rw [if_pos h]
    obtain ⟨b0, b1, _⟩ := byts6_head p x t
    by_cases h0 : k = 0
    · subst h0; rw [b0]; simp [upd]
    · by_cases h1 : k = 1
      · subst h1; rw [b1]; simp [upd]
      · obtain ⟨j, rfl⟩ : ∃ j, k = j + 2 := ⟨k - 2, by omega⟩
        unfold upd
        rw [if_neg h1, if_neg h0]
        show ((nxt6 p t :: (x.2 : Int) :: List.replicate (6 + 8 * x.2) 0) ++ byts6 p t).getD (j + 2) 0 = 0
        simp only [List.cons_append, List.getD_cons_succ]
        rw [List.getD_eq_getElem?_getD, List.getElem?_append_left (by simp; omega), List.getElem?_replicate, if_pos (by omega)]
        rfl
  · rw [if_neg h]
    have := byts6_tail p x t (k - (8 + 8 * x.2))
    show _ = (byts6 p t).getD (k - (8 + 8 * x.2)) 0
    rw [← this]
    congr 1
    omega
theorem idx3 (r : Nat) (hr : r < 3) (x y z v : Int) (hv : v = if r = 0 then x else if r = 1 then y else z) (W : World) : (Instr.index 38 (.agg #[.int .u8 x, .int .u8 y, .int .u8 z]) (.int .u8 (r : Int))).run Try.prog W = .ok (.int .u8 v) W := by
  obtain ⟨i0, hi0, hz0, hz1, hz2⟩ := info_parts Try.info5
  have hu : Try.prog.underlying 38 = some (.array 3 5) := by kernel_rfl
  have h8 : Try.prog.underlying 5 = some (.int .u8) := Try.underlying5
  unfold Instr.index
  subst hv
  match r, hr with
  | 0, _ => simp [Sem.run_bind, asIntOf, run_underlying hu, sizeOf, typeInfo, hi0, hz1, part, isAgg, run_underlying h8]
  | 1, _ => simp [Sem.run_bind, asIntOf, run_underlying hu, sizeOf, typeInfo, hi0, hz1, part, isAgg, run_underlying h8]
  | 2, _ => simp [Sem.run_bind, asIntOf, run_underlying hu, sizeOf, typeInfo, hi0, hz1, part, isAgg, run_underlying h8]
set_option maxRecDepth 100000 in
set_option maxHeartbeats 4000000 in
theorem ip6chain_any (A : Option Addr) (n c : Nat) (f : Nat → Int) (hf : Byt f) (proto cut : Int) (hp : 0 ≤ proto ∧ proto ≤ 255) (hcut : -9223372036854775808 ≤ cut ∧ cut ≤ 9223372036854775807) (hn : n ≤ 9223372036854775807) (w : World) (hr : Rd w w.heap.size A n f) :
    Calls Try.prog 5 #[.slice A n c, .int .u8 proto, .int .i64 cut] w fun e w' => e = .returned (.bool true) ∧ Below w.heap.size w w' := by
  have HKN : Hid (∀ W : World, Calls Try.prog 6 #[] W fun e w' => e = .returned (.bool true) ∧ Below W.heap.size W w') := Lib.hid known_any
  have HR := Lib.hid hr
  have HF := Lib.hid hf
  clear hr hf
  by_cases c0 : 12 < n
  · have c0' : (12 : Int) < (n : Int) := by omega
    go_enter Try.func5, Try.ntmps5
    go_wp2_with (first
      | (go_at_call 6; refine (HKN.out _).mono ?_; rintro e wk ⟨rfl, hbk⟩))
    go_ret
    exact ⟨rfl, hbk⟩
  · have c0' : (n : Int) ≤ 12 := by omega
    by_cases c1 : proto = 0
    · subst c1
      go_enter Try.func5, Try.ntmps5
      go_wp2_with (first
        | (go_at_call 6; refine (HKN.out _).mono ?_; rintro e wk ⟨rfl, hbk⟩))
      go_ret
      exact ⟨rfl, hbk⟩
    · by_cases c2 : proto = 43
      · subst c2
        go_enter Try.func5, Try.ntmps5
        go_wp2_with (first
          | (go_at_call 6; refine (HKN.out _).mono ?_; rintro e wk ⟨rfl, hbk⟩))
        go_ret
        exact ⟨rfl, hbk⟩
      · by_cases c3 : proto = 44
        · subst c3
          go_enter Try.func5, Try.ntmps5
          go_wp2_with (first
            | (go_at_call 6; refine (HKN.out _).mono ?_; rintro e wk ⟨rfl, hbk⟩))
          go_ret
          exact ⟨rfl, hbk⟩
        · by_cases c4 : proto = 60
          · subst c4
            go_enter Try.func5, Try.ntmps5
            go_wp2_with (first
              | (go_at_call 6; refine (HKN.out _).mono ?_; rintro e wk ⟨rfl, hbk⟩))
            go_ret
            exact ⟨rfl, hbk⟩
          · have hp0 : (proto == 0) = false := by simpa using c1
            have hp1 : (proto == 43) = false := by simpa using c2
            have hp2 : (proto == 44) = false := by simpa using c3
            have hp3 : (proto == 60) = false := by simpa using c4
            have HPE : Hid (ext6 proto = false) := Lib.hid (by unfold ext6; simp [c1, c2, c3, c4])
            have hn12 : (n : Int) ≤ 12 := by omega
            have w1 : IntKind.i64.wrap ((n : Int) - 1) = (n : Int) - 1 := by rw [IntKind.wrap_i64]; omega
            have HP := Lib.hid hp
            have HCU := Lib.hid hcut
            obtain ⟨i0, hi0, hz0, hz1, hz2⟩ := info_parts Try.info5
            have HI0 := Lib.hid hi0
            have HZ0 := Lib.hid hz0
            have HZ1 := Lib.hid hz1
            have HZ2 := Lib.hid hz2
            clear hi0 hz0 hz1 hz2 c1 c2 c3 c4 hp hcut
            go_enter Try.func5, Try.ntmps5
            go_wp2
            go_loopw [7, 8, 9] (fun x y z wr => ∃ (i : Nat) (Ab : Option Addr) (cb : Nat), i ≤ n ∧ x = .slice Ab (byts6 proto (hl6 f n i)).length cb ∧ y = .int .u8 (nxt6 proto (hl6 f n i)) ∧ z = .int .i64 ((i : Int) - 1) ∧ Hid (Own wr w.heap.size 5 Ab (byts6 proto (hl6 f n i)).length cb (fun k => (byts6 proto (hl6 f n i)).getD k 0)) ∧ Hid (Below w.heap.size w wr)) (fun _ _ z _ => (intOf z + 1).toNat)
            case atStart => exact ⟨n, none, 0, Nat.le_refl _, by rw [hl6_end]; rfl, by rw [hl6_end]; rfl, rfl, by rw [hl6_end]; exact Lib.hid (Own.nil_ _ _ _ _), Lib.hid (Below.refl _ _)⟩
            case round =>
              clear w1
              obtain ⟨i, Ab, cb, hi, rfl, rfl, rfl, HO, HB⟩ := hrel
              by_cases hlt : 0 < i
              · obtain ⟨j, rfl⟩ : ∃ j, i = j + 1 := ⟨i - 1, by omega⟩
                rw [show ((j + 1 : Nat) : Int) - 1 = (j : Int) by omega]
                obtain ⟨BL, hBL⟩ : ∃ BL, BL = (byts6 proto (hl6 f n (j + 1))).length := ⟨_, rfl⟩
                obtain ⟨G, hG⟩ : ∃ G : Nat → Int, G = fun k => (byts6 proto (hl6 f n (j + 1))).getD k 0 := ⟨_, rfl⟩
                obtain ⟨NX, hNX⟩ : ∃ NX, NX = nxt6 proto (hl6 f n (j + 1)) := ⟨_, rfl⟩
                rw [← hBL, ← hG] at HO
                rw [← hBL, ← hNX]
                have hBm : BL ≤ 32 * 12 := by
                  rw [hBL]
                  have := (byts6_le (p := proto) _ (hl6_may f HF.out n (j + 1))).1
                  rw [hl6_len] at this
                  omega
                have HBL := Lib.hid hBL
                have HG := Lib.hid hG
                have HNX := Lib.hid hNX
                clear hBL hG hNX
                obtain ⟨v, hv⟩ : ∃ v, v = f j := ⟨_, rfl⟩
                have pv := HF.out j
                rw [← hv] at pv
                rcases HR.out with h0 | ⟨b, off, rfl, hbb, hcell⟩
                · omega
                have hx := (HB.out.cell (p := ⟨b, off + j, none⟩) hbb).trans (hcell j (by omega))
                rw [← hv] at hx
                have HV := Lib.hid hv
                clear hv hcell
                obtain ⟨Q, hQ⟩ : ∃ Q, Q = v / 3 := ⟨_, rfl⟩
                obtain ⟨WN, hWN⟩ : ∃ WN : Nat, WN = (v / 3 % 4).toNat := ⟨_, rfl⟩
                have q1 : v.tdiv 3 = Q := (Int.tdiv_eq_ediv_of_nonneg pv.1).trans hQ.symm
                have q2 : IntKind.u8.wrap Q = Q := by simp only [IntKind.wrap_u8]; omega
                have q3 : Q.tmod 4 = (WN : Int) := (Int.tmod_eq_emod_of_nonneg (by omega)).trans (by omega)
                have hW3 : WN ≤ 3 := by omega
                have i1 : (0 : Int) ≤ (j : Int) := by omega
                have i2 : (j : Int) < (n : Int) := by omega
                have i3 : ((j : Int)).toNat = j := by omega
                have i4 : IntKind.i64.wrap ((j : Int) - 1) = (j : Int) - 1 := by rw [IntKind.wrap_i64]; omega
                have HWN := Lib.hid hWN
                clear hQ hWN
                go_upto_region 8 with fail
                by_cases hr3 : v % 3 = 0
                · have hd : hd6 v = (43, WN) := by
                    unfold hd6
                    rw [if_pos hr3, ← HWN.out]
                  have r1 : v.tmod 3 = 0 := (Int.tmod_eq_emod_of_nonneg pv.1).trans hr3
                  have hidx : ∀ W : World, (Instr.index 38 (.agg #[.int .u8 43, .int .u8 60, .int .u8 44]) (.int .u8 0)).run Try.prog W = .ok (.int .u8 43) W := idx3 0 (by omega) 43 60 44 43 rfl
                  obtain ⟨blk, hblk⟩ : ∃ blk, blk = Obj.cells (madeCells (Value.int .u8 0).cells (8 + 8 * WN)) 5 := ⟨_, rfl⟩
                  have hmk : ∀ W : World, (Instr.makeSlice 24 (.int .i64 (8 + 8 * (WN : Int))) (.int .i64 (8 + 8 * (WN : Int)))).run Try.prog W = .ok (.slice (some ⟨W.heap.size, 0, none⟩) (8 + 8 * WN) (8 + 8 * WN)) (W.alloc blk) := fun W => by
                    have q := run_make_bytes (P := Try.prog) W 24 5 i0 Try.underlying24 HI0.out HZ0.out HZ1.out HZ2.out (8 + 8 * WN) (by omega)
                    have e : (((8 + 8 * WN) : Nat) : Int) = 8 + 8 * (WN : Int) := by omega
                    rw [e] at q
                    rw [hblk]
                    exact q
                  have HMK := Lib.hid hblk
                  clear hblk
                  go_quiet (fail)
                  have HO4 : Hid (Own (wr.drewN nq) w.heap.size 5 Ab BL cb G) := Lib.hid HO.out
                  have HB4 : Hid (Below w.heap.size w (wr.drewN nq)) := below_drewN HB.out nq
                  generalize wr.drewN nq = w4 at *
                  go_upto_region 12 with fail
                  have HM : Hid (Own (w4.alloc blk) w.heap.size 5 (some ⟨w4.heap.size, 0, none⟩) (8 + 8 * WN) (8 + 8 * WN) (fun _ => 0)) := by
                    refine Lib.hid ?_
                    rw [HMK.out]
                    exact (made_own w4 5 (8 + 8 * WN) (by omega) _ rfl).le HB4.out.size
                  have HO5 : Hid (Own (w4.alloc blk) w.heap.size 5 Ab BL cb G) := by rw [HMK.out]; exact HO4.out.alloc _
                  have HB5 : Hid (Below w.heap.size w (w4.alloc blk)) := HB4.out.alloc HB4.out.size _
                  have hsz : w.heap.size ≤ w4.heap.size := HB4.out.size
                  obtain ⟨g, hg, hgb, _, hgc, hgf⟩ := HM.out.lies (by omega)
                  obtain rfl : w4.heap.size = g := by simpa using hg
                  have c0 := hgc 0 (by omega)
                  have c1 := hgc 1 (by omega)
                  have f0 := hgf 0
                  have f1 := hgf 1
                  have HM6 := Lib.hid ((HM.out.set_ 0 NX).set_ 1 (WN : Int))
                  have hsz4 : w4.heap.size < (w4.alloc blk).heap.size := by simp
                  clear hgc hgf hg hmk
                  have HB6 : Hid (Below w.heap.size w (((w4.alloc blk).setCell ⟨w4.heap.size, 0, none⟩ (.int .u8 NX)).setCell ⟨w4.heap.size, 1, none⟩ (.int .u8 (WN : Int)))) := (HB5.out.setCell (by exact hsz) _).setCell (by exact hsz) _
                  have HO6 : Hid (Rd (((w4.alloc blk).setCell ⟨w4.heap.size, 0, none⟩ (.int .u8 NX)).setCell ⟨w4.heap.size, 1, none⟩ (.int .u8 (WN : Int))) (((w4.alloc blk).setCell ⟨w4.heap.size, 0, none⟩ (.int .u8 NX)).setCell ⟨w4.heap.size, 1, none⟩ (.int .u8 (WN : Int))).heap.size Ab BL G) := by
                    refine Lib.hid ?_
                    have q := HO4.out.rd
                    have hb : Below w4.heap.size w4 (((w4.alloc blk).setCell ⟨w4.heap.size, 0, none⟩ (.int .u8 NX)).setCell ⟨w4.heap.size, 1, none⟩ (.int .u8 (WN : Int))) := ((below_alloc w4 _).setCell (by exact Nat.le_refl _) _).setCell (by exact Nat.le_refl _) _
                    exact (q.keep hb).more hb.size
                  have w7 : IntKind.u8.wrap (WN : Int) = (WN : Int) := by simp only [IntKind.wrap_u8]; omega
                  go_wp2_with (first
                    | (at_builtin
                       refine wpList_append_rd rfl (.tmp 74) (.tmp 75) _ rfl w.heap.size 5 i0 Try.underlying24 HI0.out HZ0.out HZ1.out HZ2.out rfl HM6.out rfl HO6.out (by omega) HB6.out.size ?_
                       intro A7 c7 w8 hown hg8 _
                       have HB8 : Hid (Below w.heap.size w w8) := HB6.out.grown hg8 HB6.out.size (fun k hk => HM6.out.at_ k hk)
                       have HO8 := Lib.hid hown
                       clear hown hg8))
                  have HL : Hid (hl6 f n j = (43, WN) :: hl6 f n (j + 1)) := by
                    refine Lib.hid ?_
                    rw [hl6_step f n j (by omega), ← HV.out, hd]
                  have hlen : (byts6 proto (hl6 f n j)).length = (8 + 8 * WN) + BL := by
                    rw [HL.out, byts6_len, HBL.out]
                  have HO9 : Hid (Own w8 w.heap.size 5 A7 ((8 + 8 * WN) + BL) c7 (fun k => (byts6 proto (hl6 f n j)).getD k 0)) := by
                    refine Lib.hid (HO8.out.same fun k _ => ?_)
                    show (byts6 proto (hl6 f n j)).getD k 0 = _
                    rw [HL.out, byts6_cat, HG.out, HNX.out]
                  go_roundw
                  case rel => exact ⟨j, A7, c7, by omega, by rw [hlen], by rw [HL.out]; rfl, by first | rfl | simp, by rw [hlen]; exact HO9, HB8⟩
                  case measure => simp [intOf]
                · by_cases hr3 : v % 3 = 1
                  · have hd : hd6 v = (60, WN) := by
                      unfold hd6
                      rw [if_neg (by omega), if_pos hr3, ← HWN.out]
                    have r1 : v.tmod 3 = 1 := (Int.tmod_eq_emod_of_nonneg pv.1).trans hr3
                    have hidx : ∀ W : World, (Instr.index 38 (.agg #[.int .u8 43, .int .u8 60, .int .u8 44]) (.int .u8 1)).run Try.prog W = .ok (.int .u8 60) W := idx3 1 (by omega) 43 60 44 60 rfl
                    obtain ⟨blk, hblk⟩ : ∃ blk, blk = Obj.cells (madeCells (Value.int .u8 0).cells (8 + 8 * WN)) 5 := ⟨_, rfl⟩
                    have hmk : ∀ W : World, (Instr.makeSlice 24 (.int .i64 (8 + 8 * (WN : Int))) (.int .i64 (8 + 8 * (WN : Int)))).run Try.prog W = .ok (.slice (some ⟨W.heap.size, 0, none⟩) (8 + 8 * WN) (8 + 8 * WN)) (W.alloc blk) := fun W => by
                      have q := run_make_bytes (P := Try.prog) W 24 5 i0 Try.underlying24 HI0.out HZ0.out HZ1.out HZ2.out (8 + 8 * WN) (by omega)
                      have e : (((8 + 8 * WN) : Nat) : Int) = 8 + 8 * (WN : Int) := by omega
                      rw [e] at q
                      rw [hblk]
                      exact q
                    have HMK := Lib.hid hblk
                    clear hblk
                    go_quiet (fail)
                    have HO4 : Hid (Own (wr.drewN nq) w.heap.size 5 Ab BL cb G) := Lib.hid HO.out
                    have HB4 : Hid (Below w.heap.size w (wr.drewN nq)) := below_drewN HB.out nq
                    generalize wr.drewN nq = w4 at *
                    go_upto_region 12 with fail
                    have HM : Hid (Own (w4.alloc blk) w.heap.size 5 (some ⟨w4.heap.size, 0, none⟩) (8 + 8 * WN) (8 + 8 * WN) (fun _ => 0)) := by
                      refine Lib.hid ?_
                      rw [HMK.out]
                      exact (made_own w4 5 (8 + 8 * WN) (by omega) _ rfl).le HB4.out.size
                    have HO5 : Hid (Own (w4.alloc blk) w.heap.size 5 Ab BL cb G) := by rw [HMK.out]; exact HO4.out.alloc _
                    have HB5 : Hid (Below w.heap.size w (w4.alloc blk)) := HB4.out.alloc HB4.out.size _
                    have hsz : w.heap.size ≤ w4.heap.size := HB4.out.size
                    obtain ⟨g, hg, hgb, _, hgc, hgf⟩ := HM.out.lies (by omega)
                    obtain rfl : w4.heap.size = g := by simpa using hg
                    have c0 := hgc 0 (by omega)
                    have c1 := hgc 1 (by omega)
                    have f0 := hgf 0
                    have f1 := hgf 1
                    have HM6 := Lib.hid ((HM.out.set_ 0 NX).set_ 1 (WN : Int))
                    have hsz4 : w4.heap.size < (w4.alloc blk).heap.size := by simp
                    clear hgc hgf hg hmk
                    have HB6 : Hid (Below w.heap.size w (((w4.alloc blk).setCell ⟨w4.heap.size, 0, none⟩ (.int .u8 NX)).setCell ⟨w4.heap.size, 1, none⟩ (.int .u8 (WN : Int)))) := (HB5.out.setCell (by exact hsz) _).setCell (by exact hsz) _
                    have HO6 : Hid (Rd (((w4.alloc blk).setCell ⟨w4.heap.size, 0, none⟩ (.int .u8 NX)).setCell ⟨w4.heap.size, 1, none⟩ (.int .u8 (WN : Int))) (((w4.alloc blk).setCell ⟨w4.heap.size, 0, none⟩ (.int .u8 NX)).setCell ⟨w4.heap.size, 1, none⟩ (.int .u8 (WN : Int))).heap.size Ab BL G) := by
                      refine Lib.hid ?_
                      have q := HO4.out.rd
                      have hb : Below w4.heap.size w4 (((w4.alloc blk).setCell ⟨w4.heap.size, 0, none⟩ (.int .u8 NX)).setCell ⟨w4.heap.size, 1, none⟩ (.int .u8 (WN : Int))) := ((below_alloc w4 _).setCell (by exact Nat.le_refl _) _).setCell (by exact Nat.le_refl _) _
                      exact (q.keep hb).more hb.size
                    have w7 : IntKind.u8.wrap (WN : Int) = (WN : Int) := by simp only [IntKind.wrap_u8]; omega
                    go_wp2_with (first
                      | (at_builtin
                         refine wpList_append_rd rfl (.tmp 74) (.tmp 75) _ rfl w.heap.size 5 i0 Try.underlying24 HI0.out HZ0.out HZ1.out HZ2.out rfl HM6.out rfl HO6.out (by omega) HB6.out.size ?_
                         intro A7 c7 w8 hown hg8 _
                         have HB8 : Hid (Below w.heap.size w w8) := HB6.out.grown hg8 HB6.out.size (fun k hk => HM6.out.at_ k hk)
                         have HO8 := Lib.hid hown
                         clear hown hg8))
                    have HL : Hid (hl6 f n j = (60, WN) :: hl6 f n (j + 1)) := by
                      refine Lib.hid ?_
                      rw [hl6_step f n j (by omega), ← HV.out, hd]
                    have hlen : (byts6 proto (hl6 f n j)).length = (8 + 8 * WN) + BL := by
                      rw [HL.out, byts6_len, HBL.out]
                    have HO9 : Hid (Own w8 w.heap.size 5 A7 ((8 + 8 * WN) + BL) c7 (fun k => (byts6 proto (hl6 f n j)).getD k 0)) := by
                      refine Lib.hid (HO8.out.same fun k _ => ?_)
                      show (byts6 proto (hl6 f n j)).getD k 0 = _
                      rw [HL.out, byts6_cat, HG.out, HNX.out]
                    go_roundw
                    case rel => exact ⟨j, A7, c7, by omega, by rw [hlen], by rw [HL.out]; rfl, by first | rfl | simp, by rw [hlen]; exact HO9, HB8⟩
                    case measure => simp [intOf]
                  · have hr3 : v % 3 = 2 := by omega
                    have hd : hd6 v = (44, 0) := by
                      unfold hd6
                      rw [if_neg (by omega), if_neg (by omega)]
                    have r1 : v.tmod 3 = 2 := (Int.tmod_eq_emod_of_nonneg pv.1).trans hr3
                    have hidx : ∀ W : World, (Instr.index 38 (.agg #[.int .u8 43, .int .u8 60, .int .u8 44]) (.int .u8 2)).run Try.prog W = .ok (.int .u8 44) W := idx3 2 (by omega) 43 60 44 44 rfl
                    obtain ⟨blk, hblk⟩ : ∃ blk, blk = Obj.cells (madeCells (Value.int .u8 0).cells 8) 5 := ⟨_, rfl⟩
                    have hmk : ∀ W : World, (Instr.makeSlice 24 (.int .i64 (8)) (.int .i64 (8))).run Try.prog W = .ok (.slice (some ⟨W.heap.size, 0, none⟩) 8 8) (W.alloc blk) := fun W => by
                      have q := run_make_bytes (P := Try.prog) W 24 5 i0 Try.underlying24 HI0.out HZ0.out HZ1.out HZ2.out 8 (by omega)
                      have e : ((8 : Nat) : Int) = 8 := by omega
                      rw [e] at q
                      rw [hblk]
                      exact q
                    have HMK := Lib.hid hblk
                    clear hblk
                    go_quiet (fail)
                    have HO4 : Hid (Own (wr.drewN nq) w.heap.size 5 Ab BL cb G) := Lib.hid HO.out
                    have HB4 : Hid (Below w.heap.size w (wr.drewN nq)) := below_drewN HB.out nq
                    generalize wr.drewN nq = w4 at *
                    go_upto_region 12 with fail
                    have HM : Hid (Own (w4.alloc blk) w.heap.size 5 (some ⟨w4.heap.size, 0, none⟩) 8 8 (fun _ => 0)) := by
                      refine Lib.hid ?_
                      rw [HMK.out]
                      exact (made_own w4 5 8 (by omega) _ rfl).le HB4.out.size
                    have HO5 : Hid (Own (w4.alloc blk) w.heap.size 5 Ab BL cb G) := by rw [HMK.out]; exact HO4.out.alloc _
                    have HB5 : Hid (Below w.heap.size w (w4.alloc blk)) := HB4.out.alloc HB4.out.size _
                    have hsz : w.heap.size ≤ w4.heap.size := HB4.out.size
                    obtain ⟨g, hg, hgb, _, hgc, hgf⟩ := HM.out.lies (by omega)
                    obtain rfl : w4.heap.size = g := by simpa using hg
                    have c0 := hgc 0 (by omega)
                    have c1 := hgc 1 (by omega)
                    have f0 := hgf 0
                    have f1 := hgf 1
                    have HM6 := Lib.hid ((HM.out.set_ 0 NX).set_ 1 0)
                    have hsz4 : w4.heap.size < (w4.alloc blk).heap.size := by simp
                    clear hgc hgf hg hmk
                    have HB6 : Hid (Below w.heap.size w (((w4.alloc blk).setCell ⟨w4.heap.size, 0, none⟩ (.int .u8 NX)).setCell ⟨w4.heap.size, 1, none⟩ (.int .u8 0))) := (HB5.out.setCell (by exact hsz) _).setCell (by exact hsz) _
                    have HO6 : Hid (Rd (((w4.alloc blk).setCell ⟨w4.heap.size, 0, none⟩ (.int .u8 NX)).setCell ⟨w4.heap.size, 1, none⟩ (.int .u8 0)) (((w4.alloc blk).setCell ⟨w4.heap.size, 0, none⟩ (.int .u8 NX)).setCell ⟨w4.heap.size, 1, none⟩ (.int .u8 0)).heap.size Ab BL G) := by
                      refine Lib.hid ?_
                      have q := HO4.out.rd
                      have hb : Below w4.heap.size w4 (((w4.alloc blk).setCell ⟨w4.heap.size, 0, none⟩ (.int .u8 NX)).setCell ⟨w4.heap.size, 1, none⟩ (.int .u8 0)) := ((below_alloc w4 _).setCell (by exact Nat.le_refl _) _).setCell (by exact Nat.le_refl _) _
                      exact (q.keep hb).more hb.size
                    have w7 : IntKind.u8.wrap 0 = 0 := by simp only [IntKind.wrap_u8]; omega
                    go_wp2_with (first
                      | (at_builtin
                         refine wpList_append_rd rfl (.tmp 74) (.tmp 75) _ rfl w.heap.size 5 i0 Try.underlying24 HI0.out HZ0.out HZ1.out HZ2.out rfl HM6.out rfl HO6.out (by omega) HB6.out.size ?_
                         intro A7 c7 w8 hown hg8 _
                         have HB8 : Hid (Below w.heap.size w w8) := HB6.out.grown hg8 HB6.out.size (fun k hk => HM6.out.at_ k hk)
                         have HO8 := Lib.hid hown
                         clear hown hg8))
                    have HL : Hid (hl6 f n j = (44, 0) :: hl6 f n (j + 1)) := by
                      refine Lib.hid ?_
                      rw [hl6_step f n j (by omega), ← HV.out, hd]
                    have hlen : (byts6 proto (hl6 f n j)).length = 8 + BL := by
                      rw [HL.out, byts6_len, HBL.out]
                      rfl
                    have HO9 : Hid (Own w8 w.heap.size 5 A7 (8 + BL) c7 (fun k => (byts6 proto (hl6 f n j)).getD k 0)) := by
                      refine Lib.hid (HO8.out.same fun k _ => ?_)
                      show (byts6 proto (hl6 f n j)).getD k 0 = _
                      rw [HL.out, byts6_cat, HG.out, HNX.out]
                      rfl
                    go_roundw
                    case rel => exact ⟨j, A7, c7, by omega, by rw [hlen], by rw [HL.out]; rfl, by first | rfl | simp, by rw [hlen]; exact HO9, HB8⟩
                    case measure => simp [intOf]
              · obtain rfl : i = 0 := by omega
                clear hlt hi
                obtain ⟨hs, hhs⟩ : ∃ hs, hs = hl6 f n 0 := ⟨_, rfl⟩
                rw [← hhs] at HO ⊢
                have hlen : hs.length = n := by rw [hhs, hl6_len]; omega
                have hmay : ∀ x, x ∈ hs → may6 x := by rw [hhs]; exact hl6_may f HF.out n 0
                have hle := byts6_le (p := proto) hs hmay
                obtain ⟨BL, hBL⟩ : ∃ BL, BL = (byts6 proto hs).length := ⟨_, rfl⟩
                obtain ⟨G, hG⟩ : ∃ G : Nat → Int, G = fun k => (byts6 proto hs).getD k 0 := ⟨_, rfl⟩
                obtain ⟨NX, hNX⟩ : ∃ NX, NX = nxt6 proto hs := ⟨_, rfl⟩
                have hNXb := nxt6_byt HP.out hmay
                obtain ⟨j1, j2, j3⟩ := chn_built HPE.out hs 8 0 hmay (f := G) (fun j _ => by rw [Nat.zero_add, hG])
                have hGb : Byt G := by rw [hG]; exact byts6_byt HP.out hmay
                rw [← hBL, ← hG] at HO
                rw [← hBL, ← hNX]
                rw [← hBL] at hle j1 j2 j3
                rw [← hNX] at j1 j2 j3 hNXb
                rw [Nat.zero_add] at j1 j2
                rw [hlen] at hle j1 j2 j3
                have HJ1 := Lib.hid j1
                have HJ2 := Lib.hid j2
                have HJ3 := Lib.hid j3
                have HNB := Lib.hid hNXb
                have HGB := Lib.hid hGb
                obtain ⟨l1, l2⟩ := hle
                clear j1 j2 j3 hG hNX hBL hmay hlen hhs hNXb hGb
                have HC1 := Lib.hid (chain_any NX HNB.out Ab BL cb G HGB.out (by omega) HO.out.cap HO.out.cap_le wr HO.out.rd)
                rw [show (((0 : Nat) : Int) - 1) = -1 from rfl]
                by_cases n8 : 8 < n
                · have n8' : (8 : Int) < (n : Int) := by omega
                  rw [HJ2.out (by omega)] at HC1
                  go_wp2_with (first
                    | (go_at_call 12; refine HC1.out.mono ?_; rintro e w5 ⟨rfl, hb5⟩)
                    | (go_at_call 6; refine (HKN.out _).mono ?_; rintro e wk ⟨rfl, hbk⟩))
                  go_ret
                  exact ⟨rfl, (HB.out.trans (hb5.mono HB.out.size)).trans (hbk.mono (HB.out.trans (hb5.mono HB.out.size)).size)⟩
                · have n8' : (n : Int) ≤ 8 := by omega
                  by_cases n0 : n = 0
                  · obtain rfl : n = 0 := n0
                    obtain rfl : BL = 0 := by omega
                    rw [HJ1.out (by omega)] at HC1
                    go_wp2_with (first
                      | (go_at_call 12; refine HC1.out.mono ?_; rintro e w5 ⟨rfl, hb5⟩)
                      | (go_at_call 6; refine (HKN.out _).mono ?_; rintro e wk ⟨rfl, hbk⟩))
                    go_ret
                    exact ⟨rfl, (HB.out.trans (hb5.mono HB.out.size)).trans (hbk.mono (HB.out.trans (hb5.mono HB.out.size)).size)⟩
                  · have hB0 : 0 < BL := by omega
                    have hB0' : ((BL : Int) == 0) = false := by simp; omega
                    rw [HJ1.out (by omega)] at HC1
                    obtain ⟨cu, hcu⟩ : ∃ cu : Int, cu = IntKind.u64.wrap cut := ⟨_, rfl⟩
                    have hcu0 : 0 ≤ cu ∧ cu ≤ 18446744073709551615 := by
                      rw [hcu]
                      simp only [IntKind.wrap_u64]
                      omega
                    obtain ⟨cn, hcn⟩ : ∃ cn : Nat, cn = (cu % (BL : Int)).toNat := ⟨_, rfl⟩
                    have hm0 : 0 ≤ cu % (BL : Int) := Int.emod_nonneg _ (by omega)
                    have hm1 : cu % (BL : Int) < (BL : Int) := Int.emod_lt_of_pos _ (by omega)
                    have hcl : cn < BL := by omega
                    have k1 : IntKind.u64.wrap cut = cu := hcu.symm
                    have k2 : IntKind.u64.wrap (BL : Int) = (BL : Int) := by simp only [IntKind.wrap_u64]; omega
                    have k3 : cu.tmod (BL : Int) = (cn : Int) := (Int.tmod_eq_emod_of_nonneg hcu0.1).trans (by omega)
                    have k4 : IntKind.u64.wrap (cn : Int) = (cn : Int) := by simp only [IntKind.wrap_u64]; omega
                    have k5 : IntKind.i64.wrap (cn : Int) = (cn : Int) := by rw [IntKind.wrap_i64]; omega
                    have k6 : ¬ (BL : Int) = 0 := by omega
                    obtain ⟨D, hsD, hrD⟩ := slice_to Ab BL cb cn (by omega) HO.out.cap HO.out.cap_le
                    have HRD := Lib.hid hrD
                    clear hcu hcn hm0 hm1 hrD
                    have hcb := HO.out.cap
                    have hcb' := HO.out.cap_le
                    go_upto_if 87 with (first
                      | (go_at_call 12; refine HC1.out.mono ?_; rintro e w5 ⟨rfl, hb5⟩))
                    have HB6 : Hid (Below w.heap.size w w5) := HB.out.trans (hb5.mono HB.out.size)
                    have HO6 : Hid (Own w5 w.heap.size 5 Ab BL cb G) := Lib.hid (HO.out.below hb5)
                    have HC2 := Lib.hid (chain_any NX HNB.out D cn cb G HGB.out (by omega) (by omega) hcb' w5 (HRD.out _ _ _ HO6.out.rd))
                    have e3 := HJ3.out cn (by omega) hcl
                    rw [Nat.zero_add] at e3
                    rw [e3] at HC2
                    clear hb5 HC1 e3
                    go_wp2_with fail
                    go_at_call 12
                    refine HC2.out.mono ?_
                    rintro e w6 ⟨rfl, hb6⟩
                    go_wp2_with (first
                      | (go_at_call 6; refine (HKN.out _).mono ?_; rintro e wk ⟨rfl, hbk⟩))
                    go_ret
                    exact ⟨rfl, (HB6.out.trans (hb6.mono HB6.out.size)).trans (hbk.mono (HB6.out.trans (hb6.mono HB6.out.size)).size)⟩
end Go.Proofs.Ytankpbehahopgaa
