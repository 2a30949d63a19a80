/-
  Tables: slices.Concat at two slices of bytes, by contract.
-/
import Derived.Test.YtbcfndhnopmbbaaTabM
namespace Go.Proofs.Ytbcfndhnopmbbaa
open Go.RowKit
set_option linter.unusedVariables false
set_option linter.unusedSimpArgs false
set_option maxHeartbeats 4000000 in
set_option maxRecDepth 100000 in
theorem concat_any (g : Nat) (A B : Option Addr) (ca cb : Nat) (a b : List UInt8) (w : World) (hg : Blk w g 26 #[.slice A a.length ca, .slice B b.length cb])
    (ha : Reads w w.heap.size 1 A a.length (BV a)) (hb : Reads w w.heap.size 1 B b.length (BV b)) (h1 : 1 ≤ a.length + b.length) (h2 : a.length + b.length ≤ 1000) :
    Calls Try.prog 64 #[.slice (some ⟨g, 0, none⟩) 2 2] w fun e w' => ∃ A' c', e = .returned (.slice A' (a ++ b).length c') ∧ BsAt w' w'.heap.size ⟨a ++ b, A', c'⟩ ∧ (∀ ad, A' = some ad → w.heap.size ≤ ad.block) ∧ Below w.heap.size w w' := by
  obtain ⟨i0, hi, hz0, hz1, hz2⟩ := info_parts byteInfo'
  have HI := hide hi
  have HZ0 := hide hz0
  have HZ1 := hide hz1
  have HZ2 := hide hz2
  have HA := hide (fun (W : World) (hb : Below w.heap.size w W) => (ha.below hb).more hb.size)
  have HB := hide (fun (W : World) (hc : Below w.heap.size w W) => (hb.below hc).more hc.size)
  have HN := hide (show (a ++ b).length = a.length + b.length from List.length_append)
  have HV := hide (BV_append a b)
  obtain ⟨n, hn⟩ : ∃ n, n = a.length := ⟨_, rfl⟩
  obtain ⟨m, hm⟩ : ∃ m, m = b.length := ⟨_, rfl⟩
  rw [← hn, ← hm] at HN
  rw [← hn] at HA
  rw [← hm] at HB
  rw [← hn, ← hm] at h1 h2 hg
  clear hi hz0 hz1 hz2 ha hb hn hm
  have d0 : w.cell? ⟨g, 0, none⟩ = some (.slice A n ca) := hg.cell 0
  have d1 : w.cell? ⟨g, 1, none⟩ = some (.slice B m cb) := hg.cell 1
  have hgl := hg.lt
  have hn0 : (0 : Int) ≤ (n : Int) := by omega
  have hm0 : (0 : Int) ≤ (m : Int) := by omega
  have hnm : (n : Int) + (m : Int) ≤ 1000 := by omega
  have HG := hide hg
  have HW := hide (Below.refl w.heap.size w)
  have CG := hide (grow_any (n + m) w h1 (by omega))
  have hcst : ((n + m : Nat) : Int) = (n : Int) + (m : Int) := by omega
  rw [hcst] at CG
  clear hcst hg
  go_enter Try.func64, Try.ntmps64
  go_wp2
  go_loopw [3, 11] (fun s3 s wr => ∃ i : Nat, i ≤ 2 ∧ s = .int .i64 (i : Int) ∧ s3 = .int .i64 (if i = 0 then 0 else if i = 1 then (n : Int) else (n : Int) + (m : Int)) ∧ w = wr) (fun _ s _ => 2 - (intOf s).toNat)
  case atStart => exact ⟨0, by omega, rfl, rfl, rfl⟩
  case round =>
    obtain ⟨i, hi, rfl, rfl, rfl⟩ := hrel
    obtain rfl | rfl | rfl : i = 0 ∨ i = 1 ∨ i = 2 := by omega
    · rw [show ((0 : Nat) : Int) = 0 from rfl, if_pos rfl]
      go_wp2
      exact ⟨⟨1, by omega, by rfl, by rfl, trivial⟩, by simp [intOf]⟩
    · rw [show ((1 : Nat) : Int) = 1 from rfl, if_neg (by omega), if_pos rfl]
      go_wp2
      exact ⟨⟨2, by omega, by rfl, by rfl, trivial⟩, by simp [intOf]⟩
    · rw [show ((2 : Nat) : Int) = 2 from rfl, if_neg (by omega), if_neg (by omega)]
      go_upto_region 10 with (go_at_call 70; refine (unhide CG).mono ?_; rintro e w1 ⟨v1, rfl, hown1, hb1⟩; have HO1 := hide hown1; have B1 := hide hb1; clear hown1 hb1)
      have hgs := B1.out.size
      clear d0 d1 CG
      go_wp2
      go_loopw [6, 27] (fun v s wr => ∃ i : Nat, i ≤ 2 ∧ s = .int .i64 (i : Int) ∧ wr.ownsRow w.heap.size 5 1 v (if i = 0 then 0 else if i = 1 then n else n + m) (BV (if i = 0 then [] else if i = 1 then a else a ++ b)) ∧ Below w.heap.size w wr) (fun _ s _ => 2 - (intOf s).toNat)
      case atStart => exact ⟨0, by omega, rfl, HO1.out, B1.out⟩
      case round =>
        obtain ⟨i, hi, rfl, hown, hbel⟩ := hrel
        obtain ⟨wd, rfl⟩ : ∃ wd, wd = wr := ⟨wr, rfl⟩
        have HBL := hide hbel
        have hG := HG.out.below hbel hgl
        have d0 : wd.cell? ⟨g, 0, none⟩ = some (.slice A n ca) := hG.cell 0
        have d1 : wd.cell? ⟨g, 1, none⟩ = some (.slice B m cb) := hG.cell 1
        have hws := hbel.size
        have RA := hide (HA.out wd hbel)
        have RB := hide (HB.out wd hbel)
        clear hG hbel
        obtain rfl | rfl | rfl : i = 0 ∨ i = 1 ∨ i = 2 := by omega
        · rw [if_pos rfl, if_pos rfl] at hown
          rw [show ((0 : Nat) : Int) = 0 from rfl]
          have HO := hide hown
          clear hown
          go_wp2_with (at_builtin; refine wpList_append_any _ rfl (.tmp 31) (.tmp 32) 26 rfl w.heap.size 5 i0 (.int .u8 0) 1 1 Try.underlying26 HI.out HZ0.out HZ1.out HZ2.out rfl (by omega) _ 0 (BV []) rfl HO.out _ A n ca (BV a) rfl RA.out (BV_one a) (by unfold maxLen; omega) (by omega) hws ?_; intro v2 w2 hown2 hgrow2 hat2; have HO2 := hide hown2; have HB2 := hide (HBL.out.trans (below_grown hgrow2 HO.out hws)); clear hown2 hgrow2 hat2)
          exact ⟨⟨1, by omega, by rfl, by have := HO2.out; rw [Nat.zero_add] at this; exact this, HB2.out⟩, by simp [intOf]⟩
        · rw [if_neg (by omega), if_pos rfl, if_neg (by omega), if_pos rfl] at hown
          rw [show ((1 : Nat) : Int) = 1 from rfl]
          have HO := hide hown
          clear hown
          go_wp2_with (at_builtin; refine wpList_append_any _ rfl (.tmp 31) (.tmp 32) 26 rfl w.heap.size 5 i0 (.int .u8 0) 1 1 Try.underlying26 HI.out HZ0.out HZ1.out HZ2.out rfl (by omega) _ n (BV a) rfl HO.out _ B m cb (BV b) rfl RB.out (BV_one b) (by unfold maxLen; omega) (by omega) hws ?_; intro v2 w2 hown2 hgrow2 hat2; have HO2 := hide hown2; have HB2 := hide (HBL.out.trans (below_grown hgrow2 HO.out hws)); clear hown2 hgrow2 hat2)
          exact ⟨⟨2, by omega, by rfl, by have := HO2.out; rw [← HV.out] at this; exact this, HB2.out⟩, by simp [intOf]⟩
        · rw [if_neg (by omega), if_neg (by omega), if_neg (by omega), if_neg (by omega)] at hown
          rw [show ((2 : Nat) : Int) = 2 from rfl]
          have HO := hide hown
          clear hown
          go_wp2
          go_ret
          have ho := HO.out
          obtain ⟨A', c', rfl, hbs, hab⟩ := bs_of_own ho (by have := HN.out; omega)
          exact ⟨A', c', rfl, hbs, hab, HBL.out⟩
end Go.Proofs.Ytbcfndhnopmbbaa
