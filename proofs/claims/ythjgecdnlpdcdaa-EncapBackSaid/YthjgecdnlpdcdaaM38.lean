import Derived.Test.YthjgecdnlpdcdaaM36
import Derived.Deep.CutRange
import Derived.Test.YthjgecdnlpdcdaaM37
/- The document's answers for layer 4: Write. -/
namespace Go.Proofs.Ythjgecdnlpdcdaa
set_option maxRecDepth 100000
open Go.RowKit
/-- What Write tells. -/
def Write6 (base et : Nat) (g : Nat → Int) (m : Nat) (x : Int) (w : World) (e : Ending) (w' : World) : Prop :=
  ∃ U cu, e = .returned (.tuple #[.slice U m cu, .int .i64 x]) ∧ Own w' base et U m cu g ∧ Below base w w'
def ok6 (lab next proto : Int) (on : Nat) (fo : Nat → Int) : Bool := decide (lab ≤ 1048575) && decide (chn fo on 8 next 0 = (proto, on, 0))
def Wr6 (base et : Nat) (ok : Bool) (m : Nat) (g : Nat → Int) (w : World) (e : Ending) (w' : World) : Prop :=
  (ok = false ∧ Write6 base et (fun _ => 0) 0 2 w e w') ∨ (ok = true ∧ 1660 < m ∧ Write6 base et (fun _ => 0) 0 3 w e w') ∨ (ok = true ∧ m ≤ 1660 ∧ Write6 base et g m 0 w e w')
end Go.Proofs.Ythjgecdnlpdcdaa
/- The program's ip6.Write. -/
namespace Go.Proofs.Ythjgecdnlpdcdaa
set_option maxRecDepth 100000
open Go.RowKit
/-- Write's own memory: its header, and the packet so far. -/
structure Wst (w W : World) (cs : Array Value) (A : Option Addr) (m c : Nat) (g : Nat → Int) : Prop where
  own : Own W (w.heap.size + 1) 5 A m c g
  hd : W.heap[w.heap.size]? = some (.cells cs 57 (0, 0))
  below : Below w.heap.size w W
theorem Wst.alloc {w W : World} {cs : Array Value} {A : Option Addr} {m c : Nat} {g : Nat → Int} (h : Wst w W cs A m c g) (o : Obj) : Wst w (W.alloc o) cs A m c g :=
  ⟨h.own.alloc o, blk_old h.hd o, h.below.alloc h.below.size o⟩
theorem Wst.app {w W W' : World} {cs : Array Value} {A A2 : Option Addr} {m m2 c c2 : Nat} {g g2 : Nat → Int} (h : Wst w W cs A m c g) (ho : Own W' (w.heap.size + 1) 5 A2 m2 c2 g2) (hg : W.grownBy W' (Value.ownBlock (.slice A m c))) : Wst w W' cs A2 m2 c2 g2 :=
  ⟨ho, (hg.block w.heap.size (lt_heap h.hd) (fun e => absurd (h.own.at_ _ e.symm) (Nat.not_succ_le_self _))).trans h.hd, h.below.grown hg h.below.size (fun k hk => Nat.le_of_succ_le (h.own.at_ k hk))⟩
theorem wr6_bytes (cls lab next hops : Int) (s d fo f g0 : Nat → Int) (on n k : Nat) (hk : k < 40 + (on + n)) :
    cat (40 + on) (cat 40 (hdr6 cls lab next hops s d (on + n)) fo) f k =
    cat (40 + on) (cat 40 (cat 24 (cat 8 (cat 4 (cat 0 g0 (four (96 + cls / 16) (cls % 16 * 16 + lab / 65536) (lab / 256 % 256) (lab % 256))) (four (((on : Int) + (n : Int)) / 256) (((on : Int) + (n : Int)) % 256) next hops)) s) d) fo) f k := by
  have ec : ((on + n : Nat) : Int) = (on : Int) + (n : Int) := by omega
  unfold cat
  by_cases h1 : k < 40 + on
  · rw [if_pos h1, if_pos h1]
    by_cases h2 : k < 40
    · rw [if_pos h2, if_pos h2]
      by_cases h8 : k < 8
      · have h24 : k < 24 := by omega
        rw [if_pos h24, if_pos h8]
        obtain rfl | rfl | rfl | rfl | rfl | rfl | rfl | rfl : k = 0 ∨ k = 1 ∨ k = 2 ∨ k = 3 ∨ k = 4 ∨ k = 5 ∨ k = 6 ∨ k = 7 := by omega
        all_goals simp [hdr6, four]
      · unfold hdr6
        rw [if_neg (by omega), if_neg (by omega), if_neg (by omega), if_neg (by omega), if_neg (by omega), if_neg (by omega), if_neg (by omega), if_neg (by omega)]
        by_cases h24 : k < 24
        · rw [if_pos h24, if_pos h24, if_neg h8]
        · rw [if_neg h24, if_neg h24, if_pos h2]
    · rw [if_neg h2, if_neg h2]
  · rw [if_neg h1, if_neg h1]
set_option maxRecDepth 100000 in
set_option maxHeartbeats 4000000 in
theorem write6_any (cls lab next proto hops : Int) (s d : Nat → Int) (O : Option Addr) (on co : Nat) (fo : Nat → Int) (A : Option Addr) (n c : Nat) (f : Nat → Int)
    (h1 : 0 ≤ cls ∧ cls ≤ 255) (h2 : 0 ≤ lab ∧ lab ≤ 4294967295) (h3 : 0 ≤ next ∧ next ≤ 255) (hfo : Byt fo) (hon : on ≤ 4000) (hn : n ≤ 4000) (hoc : on ≤ co) (hco : co ≤ 9223372036854775807)
    (w : World) (hro : Rd w w.heap.size O on fo) (hr : Rd w w.heap.size A n f) :
    Calls Try.prog 19 #[.agg (ip6c cls lab next proto hops s d (.slice O on co)), .slice A n c] w (Wr6 w.heap.size 5 (ok6 lab next proto on fo) (40 + (on + n)) (cat (40 + on) (cat 40 (hdr6 cls lab next hops s d (on + n)) fo) f) w) := by
  obtain ⟨i0, hi0, hz0, hz1, hz2⟩ := info_parts Try.info5
  have HI0 := Lib.hid hi0
  have HZ0 := Lib.hid hz0
  have HZ1 := Lib.hid hz1
  have HZ2 := Lib.hid hz2
  have HE1 : Hid ((w.alloc (.cells (ip6c cls lab next proto hops s d (.slice O on co)) 57)).heap[w.heap.size]? = some (.cells (ip6c cls lab next proto hops s d (.slice O on co)) 57 (0, 0))) := heap_alloc_new w _
  have HB1 : Hid (Below w.heap.size w (w.alloc (.cells (ip6c cls lab next proto hops s d (.slice O on co)) 57))) := below_alloc w _
  have HRO := Lib.hid hro
  have HR := Lib.hid hr
  have HFO := Lib.hid hfo
  clear hi0 hz0 hz1 hz2 hro hr hfo
  obtain ⟨X, hX⟩ : ∃ X, X = chn fo on 8 next 0 := ⟨_, rfl⟩
  obtain ⟨K, hK⟩ : ∃ K, K = ok6 lab next proto on fo := ⟨_, rfl⟩
  rw [← hK]
  unfold ok6 at hK
  rw [← hX] at hK
  have HK := Lib.hid hK
  have hc2 : (w.alloc (.cells (ip6c cls lab next proto hops s d (.slice O on co)) 57)).cell? ⟨w.heap.size, 2, none⟩ = some (.int .u8 next) := blk_cell HE1.out 2
  have hc37 : (w.alloc (.cells (ip6c cls lab next proto hops s d (.slice O on co)) 57)).cell? ⟨w.heap.size, 37, none⟩ = some (.slice O on co) := blk_cell HE1.out 37
  have HCH := Lib.hid (chain_any next h3 O on co fo HFO.out (by omega) hoc hco (w.alloc (.cells (ip6c cls lab next proto hops s d (.slice O on co)) 57)) ((HRO.out.keep HB1.out).more HB1.out.size))
  rw [← hX] at HCH
  obtain ⟨p, m, E⟩ := X
  clear hK hX
  go_enter Try.func19, Try.ntmps19
  go_upto_region 2 with (first
    | (go_at_call 23; refine HCH.out.mono ?_; rintro e w2 ⟨rfl, hb2⟩; have HE2 : Hid (w2.heap[w.heap.size]? = some (.cells (ip6c cls lab next proto hops s d (.slice O on co)) 57 (0, 0))) := (hb2.block _ (lt_heap HE1.out)).trans HE1.out; have HB2 : Hid (Below w.heap.size w w2) := HB1.out.trans (hb2.mono HB1.out.size); clear hb2))
  clear HCH HE1 HB1 hc2 hc37
  have a0 : w2.cell? ⟨w.heap.size, 0, none⟩ = some (.int .u8 cls) := blk_cell HE2.out 0
  have a1 : w2.cell? ⟨w.heap.size, 1, none⟩ = some (.int .u32 lab) := blk_cell HE2.out 1
  have a2 : w2.cell? ⟨w.heap.size, 2, none⟩ = some (.int .u8 next) := blk_cell HE2.out 2
  have a3 : w2.cell? ⟨w.heap.size, 3, none⟩ = some (.int .u8 proto) := blk_cell HE2.out 3
  have a4 : w2.cell? ⟨w.heap.size, 4, none⟩ = some (.int .u8 hops) := blk_cell HE2.out 4
  have a37 : w2.cell? ⟨w.heap.size, 37, none⟩ = some (.slice O on co) := blk_cell HE2.out 37
  by_cases cA : 1048575 < lab
  · have hKf : K = false := by rw [HK.out]; simp; omega
    go_wp2_with fail
    go_ret2
    first
      | exact .inl ⟨by first | exact hKf | rfl, none, 0, rfl, Own.nil_ _ _ _ _, HB2.out⟩
      | exact .inl ⟨none, 0, rfl, Own.nil_ _ _ _ _, HB2.out⟩
  · have cA' : lab ≤ 1048575 := by omega
    by_cases cB : E = 0
    · subst cB
      by_cases cC : p = proto
      · obtain rfl : proto = p := cC.symm
        by_cases cD : m = on
        · obtain rfl : on = m := cD.symm
          have hKt : K = true := by rw [HK.out]; simp; omega
          go_upto_if 44 with fail
          by_cases cL : 1660 < 40 + (on + n)
          · have cL' : (n : Int) > 1620 - (on : Int) := by omega
            go_wp2_with fail
            go_ret2
            first
              | exact .inr (.inl ⟨by first | exact hKt | rfl, by omega, none, 0, rfl, Own.nil_ _ _ _ _, HB2.out⟩)
              | exact ⟨none, 0, rfl, Own.nil_ _ _ _ _, HB2.out⟩
              | exact .inl ⟨by omega, none, 0, rfl, Own.nil_ _ _ _ _, HB2.out⟩
              | exact .inr (.inl ⟨by omega, none, 0, rfl, Own.nil_ _ _ _ _, HB2.out⟩)
          · have cL' : ¬ (n : Int) > 1620 - (on : Int) := by omega
            have hmk : ∀ W : World, (Instr.makeSlice 26 (.int .i64 0) (.int .i64 (40 + ((on : Int) + (n : Int))))).run Try.prog W = .ok (.slice (some ⟨W.heap.size, 0, none⟩) 0 (40 + (on + n))) (W.alloc (.cells (madeCells (Value.int .u8 0).cells (40 + (on + n))) 5)) := fun W => by
              have h := run_make (P := Try.prog) W 26 5 i0 (.int .u8 0) Try.underlying26 HI0.out HZ0.out .i64 .i64 0 (40 + ((on : Int) + (n : Int))) (by omega) (by omega) (by rw [HZ2.out]; omega) (by omega)
              have e2 : (40 + ((on : Int) + (n : Int))).toNat = 40 + (on + n) := by omega
              rw [e2, HZ1.out, Nat.mul_one] at h
              exact h
            have HS3 : Hid (Wst w (w2.alloc (.cells (madeCells (Value.int .u8 0).cells (40 + (on + n))) 5)) (ip6c cls lab next proto hops s d (.slice O on co)) (some ⟨w2.heap.size, 0, none⟩) 0 (40 + (on + n)) (fun _ => 0)) :=
              Lib.hid ⟨made_own0 w2 (w.heap.size + 1) 5 (40 + (on + n)) (by omega) (lt_heap HE2.out) (fun _ => 0) _ rfl, blk_old HE2.out _, HB2.out.alloc HB2.out.size _⟩
            go_upto_region 8 with fail
            clear a0 a1 a2 a3 a4 a37 HE2 HB2 hmk
            obtain ⟨z3, hz3⟩ : ∃ z, z = w2.heap.size := ⟨_, rfl⟩
            rw [← hz3] at HS3 ⊢
            clear hz3
            change Code.wp _ _ _ _ (w2.alloc (.cells (madeCells (Value.int .u8 0).cells (40 + (on + n))) 5))
            generalize w2.alloc (.cells (madeCells (Value.int .u8 0).cells (40 + (on + n))) 5) = w3 at *
            have a0 : w3.cell? ⟨w.heap.size, 0, none⟩ = some (.int .u8 cls) := blk_cell HS3.out.hd 0
            have a1 : w3.cell? ⟨w.heap.size, 1, none⟩ = some (.int .u32 lab) := blk_cell HS3.out.hd 1
            have g1 : bits .or .u8 96 (cls / 16) = 96 + cls / 16 := by simpa using or_u8 6 (cls / 16) 16 4 rfl (by omega) (by omega) (by omega) (by omega)
            have g2 : IntKind.u8.wrap (cls * 16) = cls % 16 * 16 := by rw [IntKind.wrap_u8']; omega
            have g3 : IntKind.u8.wrap (lab / 65536) = lab / 65536 := by rw [IntKind.wrap_u8']; omega
            have g4 : bits .or .u8 (cls % 16 * 16) (lab / 65536) = cls % 16 * 16 + lab / 65536 := or_u8 (cls % 16) (lab / 65536) 16 4 rfl (by omega) (by omega) (by omega) (by omega)
            have g5 : IntKind.u8.wrap (lab / 256) = lab / 256 % 256 := by rw [IntKind.wrap_u8']
            have g6 : IntKind.u8.wrap lab = lab % 256 := by rw [IntKind.wrap_u8']
            have hs3 : w.heap.size + 1 ≤ w3.heap.size := lt_heap HS3.out.hd
            go_upto_region 9 with (first
              | (at_builtin
                 refine wpList_append_rd rfl (.tmp 52) (.tmp 72) _ rfl (w.heap.size + 1) 5 i0 Try.underlying26 HI0.out HZ0.out HZ1.out HZ2.out rfl (HS3.out.alloc (.cells #[.int .u8 (96 + cls / 16), .int .u8 (cls % 16 * 16 + lab / 65536), .int .u8 (lab / 256 % 256), .int .u8 (lab % 256)] 5)).own rfl (rd_new4 w3 (w3.heap.size + 1) _ rfl (Nat.lt_succ_self _) _ _ _ _ 5) (by omega) (Nat.le_trans (lt_heap (HS3.out.alloc (.cells #[.int .u8 (96 + cls / 16), .int .u8 (cls % 16 * 16 + lab / 65536), .int .u8 (lab / 256 % 256), .int .u8 (lab % 256)] 5)).hd) (Nat.le_refl _)) ?_
                 intro A4 c4 w4 hown4 hg4 _
                 have HS4 : Hid (Wst w w4 (ip6c cls lab next proto hops s d (.slice O on co)) A4 (0 + 4) c4 (cat 0 (fun _ => 0) (four (96 + cls / 16) (cls % 16 * 16 + lab / 65536) (lab / 256 % 256) (lab % 256)))) := Lib.hid ((HS3.out.alloc (.cells #[.int .u8 (96 + cls / 16), .int .u8 (cls % 16 * 16 + lab / 65536), .int .u8 (lab / 256 % 256), .int .u8 (lab % 256)] 5)).app hown4 hg4)
                 clear hown4 hg4))
            clear a0 a1 g1 g2 g3 g4 g5 g6 hs3 HS3
            have a2 : w4.cell? ⟨w.heap.size, 2, none⟩ = some (.int .u8 next) := blk_cell HS4.out.hd 2
            have a4 : w4.cell? ⟨w.heap.size, 4, none⟩ = some (.int .u8 hops) := blk_cell HS4.out.hd 4
            have g1 : IntKind.u8.wrap (((on : Int) + (n : Int)) / 256) = ((on : Int) + (n : Int)) / 256 := by rw [IntKind.wrap_u8']; omega
            have g2 : IntKind.u8.wrap ((on : Int) + (n : Int)) = ((on : Int) + (n : Int)) % 256 := by rw [IntKind.wrap_u8']
            have hs4 : w.heap.size + 1 ≤ w4.heap.size := lt_heap HS4.out.hd
            go_upto_region 10 with (first
              | (at_builtin
                 refine wpList_append_rd rfl (.tmp 74) (.tmp 84) _ rfl (w.heap.size + 1) 5 i0 Try.underlying26 HI0.out HZ0.out HZ1.out HZ2.out rfl (HS4.out.alloc (.cells #[.int .u8 (((on : Int) + (n : Int)) / 256), .int .u8 (((on : Int) + (n : Int)) % 256), .int .u8 next, .int .u8 hops] 5)).own rfl (rd_new4 w4 (w4.heap.size + 1) _ rfl (Nat.lt_succ_self _) _ _ _ _ 5) (by omega) (Nat.le_trans (lt_heap (HS4.out.alloc (.cells #[.int .u8 (((on : Int) + (n : Int)) / 256), .int .u8 (((on : Int) + (n : Int)) % 256), .int .u8 next, .int .u8 hops] 5)).hd) (Nat.le_refl _)) ?_
                 intro A5 c5 w5 hown5 hg5 _
                 have HS5 : Hid (Wst w w5 (ip6c cls lab next proto hops s d (.slice O on co)) A5 (0 + 4 + 4) c5 (cat 4 (cat 0 (fun _ => 0) (four (96 + cls / 16) (cls % 16 * 16 + lab / 65536) (lab / 256 % 256) (lab % 256))) (four (((on : Int) + (n : Int)) / 256) (((on : Int) + (n : Int)) % 256) next hops))) := Lib.hid ((HS4.out.alloc (.cells #[.int .u8 (((on : Int) + (n : Int)) / 256), .int .u8 (((on : Int) + (n : Int)) % 256), .int .u8 next, .int .u8 hops] 5)).app hown5 hg5)
                 clear hown5 hg5))
            clear a2 a4 g1 g2 hs4 HS4
            go_upto_region 11 with (first
              | (at_builtin
                 refine wpList_append_rd rfl (.tmp 86) (.tmp 88) _ rfl (w.heap.size + 1) 5 i0 Try.underlying26 HI0.out HZ0.out HZ1.out HZ2.out rfl HS5.out.own rfl (blk_rd HS5.out.hd (lt_heap HS5.out.hd) (i := 5) (fun k hk => ip6_src k hk)) (by omega) (Nat.le_trans (lt_heap HS5.out.hd) (Nat.le_refl _)) ?_
                 intro A6 c6 w6 hown6 hg6 _
                 have HS6 : Hid (Wst w w6 (ip6c cls lab next proto hops s d (.slice O on co)) A6 (0 + 4 + 4 + 16) c6 (cat 8 (cat 4 (cat 0 (fun _ => 0) (four (96 + cls / 16) (cls % 16 * 16 + lab / 65536) (lab / 256 % 256) (lab % 256))) (four (((on : Int) + (n : Int)) / 256) (((on : Int) + (n : Int)) % 256) next hops)) s)) := Lib.hid (HS5.out.app hown6 hg6)
                 clear hown6 hg6))
            clear HS5
            go_upto_region 12 with (first
              | (at_builtin
                 refine wpList_append_rd rfl (.tmp 90) (.tmp 92) _ rfl (w.heap.size + 1) 5 i0 Try.underlying26 HI0.out HZ0.out HZ1.out HZ2.out rfl HS6.out.own rfl (blk_rd HS6.out.hd (lt_heap HS6.out.hd) (i := 21) (fun k hk => ip6_dst k hk)) (by omega) (Nat.le_trans (lt_heap HS6.out.hd) (Nat.le_refl _)) ?_
                 intro A7 c7 w7 hown7 hg7 _
                 have HS7 : Hid (Wst w w7 (ip6c cls lab next proto hops s d (.slice O on co)) A7 (0 + 4 + 4 + 16 + 16) c7 (cat 24 (cat 8 (cat 4 (cat 0 (fun _ => 0) (four (96 + cls / 16) (cls % 16 * 16 + lab / 65536) (lab / 256 % 256) (lab % 256))) (four (((on : Int) + (n : Int)) / 256) (((on : Int) + (n : Int)) % 256) next hops)) s) d)) := Lib.hid (HS6.out.app hown7 hg7)
                 clear hown7 hg7))
            clear HS6
            have a37 : w7.cell? ⟨w.heap.size, 37, none⟩ = some (.slice O on co) := blk_cell HS7.out.hd 37
            go_upto_region 13 with (first
              | (at_builtin
                 refine wpList_append_rd rfl (.tmp 94) (.tmp 96) _ rfl (w.heap.size + 1) 5 i0 Try.underlying26 HI0.out HZ0.out HZ1.out HZ2.out rfl HS7.out.own rfl (HRO.out.keep HS7.out.below) (by omega) (Nat.le_trans (lt_heap HS7.out.hd) (Nat.le_refl _)) ?_
                 intro A8 c8 w8 hown8 hg8 _
                 have HS8 : Hid (Wst w w8 (ip6c cls lab next proto hops s d (.slice O on co)) A8 (0 + 4 + 4 + 16 + 16 + on) c8 (cat 40 (cat 24 (cat 8 (cat 4 (cat 0 (fun _ => 0) (four (96 + cls / 16) (cls % 16 * 16 + lab / 65536) (lab / 256 % 256) (lab % 256))) (four (((on : Int) + (n : Int)) / 256) (((on : Int) + (n : Int)) % 256) next hops)) s) d) fo)) := Lib.hid (HS7.out.app hown8 hg8)
                 clear hown8 hg8))
            clear HS7 a37
            go_wp2_with (first
              | (at_builtin
                 refine wpList_append_rd rfl (.tmp 98) (.tmp 99) _ rfl (w.heap.size + 1) 5 i0 Try.underlying26 HI0.out HZ0.out HZ1.out HZ2.out rfl HS8.out.own rfl (HR.out.keep HS8.out.below) (by omega) (Nat.le_trans (lt_heap HS8.out.hd) (Nat.le_refl _)) ?_
                 intro A9 c9 w9 hown9 hg9 _
                 have HS9 : Hid (Wst w w9 (ip6c cls lab next proto hops s d (.slice O on co)) A9 (0 + 4 + 4 + 16 + 16 + on + n) c9 (cat (40 + on) (cat 40 (cat 24 (cat 8 (cat 4 (cat 0 (fun _ => 0) (four (96 + cls / 16) (cls % 16 * 16 + lab / 65536) (lab / 256 % 256) (lab % 256))) (four (((on : Int) + (n : Int)) / 256) (((on : Int) + (n : Int)) % 256) next hops)) s) d) fo) f)) := Lib.hid (HS8.out.app hown9 hg9)
                 clear hown9 hg9))
            clear HS8
            go_ret2
            have e9 : 0 + 4 + 4 + 16 + 16 + on + n = 40 + (on + n) := by omega
            have HO9 : Hid (Own w9 w.heap.size 5 A9 (40 + (on + n)) c9 (cat (40 + on) (cat 40 (hdr6 cls lab next hops s d (on + n)) fo) f)) := by
              have q := HS9.out.own.le (Nat.le_succ _)
              rw [e9] at q
              exact q.same fun k hk => wr6_bytes cls lab next hops s d fo f (fun _ => 0) on n k hk
            first
              | exact .inr (.inr ⟨by first | exact hKt | rfl, by omega, A9, c9, by rw [e9]; rfl, HO9.out, HS9.out.below⟩)
              | exact ⟨A9, c9, by rw [e9]; rfl, HO9.out, HS9.out.below⟩
              | exact .inr ⟨by omega, A9, c9, by rw [e9]; rfl, HO9.out, HS9.out.below⟩
              | exact .inr (.inr ⟨by omega, A9, c9, by rw [e9]; rfl, HO9.out, HS9.out.below⟩)
        · have hKf : K = false := by rw [HK.out]; simp [cD]
          have cD' : ((m : Int) != (on : Int)) = true := by simpa using (fun h : (m : Int) = (on : Int) => cD (by omega))
          go_wp2_with fail
          go_ret2
          first
            | exact .inl ⟨by first | exact hKf | rfl, none, 0, rfl, Own.nil_ _ _ _ _, HB2.out⟩
            | exact .inl ⟨none, 0, rfl, Own.nil_ _ _ _ _, HB2.out⟩
      · have hKf : K = false := by rw [HK.out]; simp [cC]
        have cC' : (p != proto) = true := by simpa using cC
        go_wp2_with fail
        go_ret2
        first
          | exact .inl ⟨by first | exact hKf | rfl, none, 0, rfl, Own.nil_ _ _ _ _, HB2.out⟩
          | exact .inl ⟨none, 0, rfl, Own.nil_ _ _ _ _, HB2.out⟩
    · have hKf : K = false := by rw [HK.out]; simp [cB]
      have cB' : (E != 0) = true := by simpa using cB
      go_wp2_with fail
      go_ret2
      first
        | exact .inl ⟨by first | exact hKf | rfl, none, 0, rfl, Own.nil_ _ _ _ _, HB2.out⟩
        | exact .inl ⟨none, 0, rfl, Own.nil_ _ _ _ _, HB2.out⟩
end Go.Proofs.Ythjgecdnlpdcdaa
