/- Stage 13: the page's examples. -/
import Derived.Test.YthbjkchgbjopfaaTf
namespace Go.Proofs.Ythbjkchgbjopfaa
set_option maxRecDepth 100000
open Go.RowKit Go.Shelf
section
variable {PT : World → Nat → Tb → (Nat → Prop) → Prop} {g : Nat}
set_option maxHeartbeats 1000000 in
theorem tknown_any (HP0 : TabP PT g) (w : World) : Calls Try.prog 6 #[] w (ret (.bool true) w) := by
  have HP := Lib.hid HP0
  have o0 : (Tb.new 8).Ok := Tb.ok_new (by decide) (by decide)
  have o1 : ((Tb.new 8).pt 9 1).Ok := Tb.ok_pt o0 (by decide) (by decide)
  have o2 : (((Tb.new 8).pt 9 1).pt 17 2).Ok := Tb.ok_pt o1 (by decide) (by decide)
  have o3 : ((((Tb.new 8).pt 9 1).pt 17 2).dr 1).Ok := Tb.ok_dr o2 1
  have o4 : (((((Tb.new 8).pt 9 1).pt 17 2).dr 1).pt 25 3).Ok := Tb.ok_pt o3 (by decide) (by decide)
  have HO0 := Lib.hid o0
  have HO1 := Lib.hid o1
  have HO2 := Lib.hid o2
  have HO3 := Lib.hid o3
  have HO4 := Lib.hid o4
  have HN := Lib.hid (HP0.new 8 w (by decide))
  clear o0 o1 o2 o3 o4 HP0
  go_enter Try.func6, Try.ntmps6
  go_upto_region 4 with (first
    | (go_at_call 7
       refine HN.out.mono ?_
       rintro e u0 ⟨p, F, rfl, hf, hn, hb⟩
       have HS0 := Lib.hid (StG.start ⟨F, hf, hn⟩ hb)
       clear hf hn hb))
  go_upto_region 5 with (first
    | (go_at_call 10
       refine (HS0.out.call fun F hF => HP.out.put hF HO0.out 9 1 (by decide) (by decide)).mono ?_
       rintro e u1 ⟨rfl, hst, _⟩
       rw [show (Tb.new 8).ptI 9 = 1 from rfl, show (Tb.new 8).ptE 9 = 0 from rfl]
       have HS1 := Lib.hid hst
       clear hst))
  go_upto_region 6 with (first
    | (go_at_call 10
       refine (HS1.out.call fun F hF => HP.out.put hF HO1.out 17 2 (by decide) (by decide)).mono ?_
       rintro e u2 ⟨rfl, hst, _⟩
       rw [show ((Tb.new 8).pt 9 1).ptI 17 = 2 from rfl, show ((Tb.new 8).pt 9 1).ptE 17 = 0 from rfl]
       have HS2 := Lib.hid hst
       clear hst))
  go_upto_region 7 with (first
    | (go_at_call 12
       refine (HS2.out.call fun F hF => HP.out.drop hF HO2.out 1).mono ?_
       rintro e u3 ⟨rfl, hst, _⟩
       rw [show (((Tb.new 8).pt 9 1).pt 17 2).drE 1 = 0 from rfl]
       have HS3 := Lib.hid hst
       clear hst))
  obtain ⟨F3, hF3, q1, q2, q3⟩ := HS3.out
  have HF := Lib.hid (lfind_any HP.out hF3 HO3.out 17 2 (by decide))
  clear hF3 q1 q2 q3
  go_upto_region 8 with (first
    | (go_at_call 14
       refine HF.out.mono ?_
       rintro e u4 ⟨rfl, hb⟩
       rw [show ((((Tb.new 8).pt 9 1).pt 17 2).dr 1).fdV 17 2 = #[.int .i64 2, .bool true] from rfl]
       have HS4 := Lib.hid (HS3.out.step HP.out.foot hb)
       clear hb))
  go_upto_region 9 with (first
    | (go_at_call 10
       refine (HS4.out.call fun F hF => HP.out.put hF HO3.out 25 3 (by decide) (by decide)).mono ?_
       rintro e u5 ⟨rfl, hst, _⟩
       rw [show ((((Tb.new 8).pt 9 1).pt 17 2).dr 1).ptI 25 = 1 from rfl, show ((((Tb.new 8).pt 9 1).pt 17 2).dr 1).ptE 25 = 0 from rfl]
       have HS5 := Lib.hid hst
       clear hst))
  obtain ⟨F5, hF5, q1, q2, q3⟩ := HS5.out
  have HMK := Lib.hid (HP.out.marks hF5 HO4.out)
  have HEN := Lib.hid fun W (hb : Below u5.heap.size u5 W) => HP.out.entries (HP.out.foot.keep hF5 (Kept.of_below hb fun _ => False) fun _ _ q => q) HO4.out
  have HB5 := Lib.hid q3
  clear hF5 q1 q2 q3
  go_wp2_with (first
    | (go_at_call 25
       refine HMK.out.mono ?_
       rintro e u6 ⟨rfl, hb⟩
       rw [show (((((Tb.new 8).pt 9 1).pt 17 2).dr 1).pt 25 3).marks = 0 from rfl]
       have HB6 := Lib.hid hb
       clear hb)
    | (go_at_call 22
       refine (HEN.out _ HB6.out).mono ?_
       rintro e u7 ⟨rfl, hb⟩
       rw [show (((((Tb.new 8).pt 9 1).pt 17 2).dr 1).pt 25 3).entries = 2 from rfl]
       have HB7 := Lib.hid (HB6.out.trans (hb.mono HB6.out.size))
       clear hb))
  go_ret
  exact ⟨rfl, HB5.out.trans (HB7.out.mono HB5.out.size)⟩
end
end Go.Proofs.Ythbjkchgbjopfaa
