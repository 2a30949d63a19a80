/-
  The reference's Digits, by contract; SignDigitsMatchSpec, walked.
-/
import Derived.Test.YtedgjpoejoepjaaDoorSane
namespace Go.Proofs.YtedgjpoejoepjaaDoor
open Go.RowKit
set_option linter.unusedVariables false
set_option linter.unusedSimpArgs false

theorem intInfo : (Tryd.prog.info? 3).map (fun i => (i.zero, i.size, i.bytes)) = some (some (.int .i64 0), 1, 8) := by kernel_rfl
namespace Sg
def pre (d : List UInt8) (n : Nat) : List Int := (List.range n).map fun i => (dig d i : Int)
theorem pre_succ (d : List UInt8) (n : Nat) : pre d (n + 1) = pre d n ++ [(dig d n : Int)] := by simp [pre, List.range_succ]
theorem pre_all (d : List UInt8) : pre d 68 = digits d := rfl
theorem dig_of_byte (d : List UInt8) (i : Nat) (h : i < d.length) (hd : d.length = 16) : ((d[i].toNat : Nat) : Int) / 64 = (dig d (4 * i) : Int) ∧ ((d[i].toNat : Nat) : Int) / 16 % 4 = (dig d (4 * i + 1) : Int) ∧ ((d[i].toNat : Nat) : Int) / 4 % 4 = (dig d (4 * i + 2) : Int) ∧ ((d[i].toNat : Nat) : Int) % 4 = (dig d (4 * i + 3) : Int) := by
  have hx := d[i].toNat_lt
  have e : ∀ r, r < 4 → dig d (4 * i + r) = d[i].toNat / 4 ^ (3 - r) % 4 := by
    intro r hr
    unfold dig digit
    rw [if_pos (by omega), show (4 * i + r) / 4 = i by omega, show (4 * i + r) % 4 = r by omega]
    simp [List.getD, h]
  have h0 := e 0 (by omega)
  have h1 := e 1 (by omega)
  have h2 := e 2 (by omega)
  have h3 := e 3 (by omega)
  rw [Nat.add_zero] at h0
  rw [h0, h1, h2, h3]
  generalize d[i].toNat = x at *
  refine ⟨?_, ?_, ?_, ?_⟩
  · show (x : Int) / 64 = ((x / 64 % 4 : Nat) : Int); omega
  · show (x : Int) / 16 % 4 = ((x / 16 % 4 : Nat) : Int); omega
  · show (x : Int) / 4 % 4 = ((x / 4 % 4 : Nat) : Int); omega
  · show (x : Int) % 4 = ((x / 1 % 4 : Nat) : Int); omega
theorem lack_dig (d : List UInt8) (n : Nat) (h : n < 64) : lack d (n + 1) = lack d n + (3 - dig d n) := by
  unfold dig; rw [if_pos h]; rfl
theorem dig_lt (d : List UInt8) (n : Nat) (h : n < 64) : lack d (n + 1) = lack d n + (3 - dig d n) := lack_dig d n h
theorem sum_digs (d : List UInt8) : ((lack d 64 : Nat) : Int) / 64 = (dig d 64 : Int) ∧ ((lack d 64 : Nat) : Int) / 16 % 4 = (dig d 65 : Int) ∧ ((lack d 64 : Nat) : Int) / 4 % 4 = (dig d 66 : Int) ∧ ((lack d 64 : Nat) : Int) % 4 = (dig d 67 : Int) := by
  have hl := lack_le d 64
  unfold dig
  simp only [show ¬ (64 < 64) by omega, show ¬ (65 < 64) by omega, show ¬ (66 < 64) by omega, show ¬ (67 < 64) by omega, if_false]
  generalize lack d 64 = x at *
  refine ⟨?_, ?_, ?_, ?_⟩
  · show (x : Int) / 64 = ((x / 64 % 4 : Nat) : Int); omega
  · show (x : Int) / 16 % 4 = ((x / 16 % 4 : Nat) : Int); omega
  · show (x : Int) / 4 % 4 = ((x / 4 % 4 : Nat) : Int); omega
  · show (x : Int) % 4 = ((x / 1 % 4 : Nat) : Int); omega
end Sg
theorem IV_snoc (l : List Int) (x : Int) : IV l ++ [.int .i64 x] = IV (l ++ [x]) := by simp [IV]
theorem IV_one (l : List Int) : ∀ u ∈ IV l, u.oneCell' = true := by
  intro u hu
  simp only [IV, List.mem_map] at hu
  obtain ⟨x, _, rfl⟩ := hu
  rfl
theorem own_fresh {w : World} {base e size n F : Nat} {v : Value} {xs : List Value} (h : w.ownsRow base e size v n xs) (hF : w.heap.size ≤ F) : v.ownBlock ≠ some F := fun he => by
  have := (h.lt F he).2
  omega
theorem far_next {w : World} {v v' : Value} {F : Nat} (h : v.ownBlock ≠ some F) (hF : F < w.heap.size) (hat : v'.ownBlock = v.ownBlock ∨ v'.ownBlock = some w.heap.size) : v'.ownBlock ≠ some F := by
  rcases hat with h1 | h1
  · rw [h1]; exact h
  · rw [h1]; intro he; injection he with he; omega
theorem Blk.lt_ {w : World} {F : Nat} {t : TypeId} {cs : Array Value} (h : Blk w F t cs) : F < w.heap.size := by
  unfold Blk at h
  rcases Nat.lt_or_ge F w.heap.size with h1 | h1
  · exact h1
  · rw [Array.getElem?_eq_none h1] at h; cases h
theorem Blk.grow_ {w w' : World} {F : Nat} {t : TypeId} {cs : Array Value} {row : Option Nat} (h : Blk w F t cs) (hg : w.grownBy w' row) (hne : row ≠ some F) : Blk w' F t cs :=
  (hg.block F h.lt_ (fun e => hne e.symm)).trans h

set_option maxHeartbeats 2000000 in
set_option maxRecDepth 100000 in
theorem refDigits_any (d : List UInt8) (w : World) (hd : d.length = 16) :
    Calls Tryd.prog 11 #[.agg (BV d).toArray] w fun e w' => ∃ v, e = .returned v ∧ w'.ownsRow (w.heap.size + 1) 3 1 v 68 (IV (Sg.digits d)) ∧ Below w.heap.size w w' := by
  obtain ⟨i0, hi0, hz0, hz1, hz2⟩ := info_parts intInfo
  have HI := hide hi0
  have HZ0 := hide hz0
  have HZ1 := hide hz1
  have HZ2 := hide hz2
  have HD := hide hd
  clear hi0 hz0 hz1 hz2 hd
  go_enter Tryd.func11, Tryd.ntmps11
  go_upto_region 4 with fail
  refine name_world fun V hV => ?_
  have D1 := hide (show Dig V w.heap.size d by rw [← hV.out]; exact Dig.new w d HD.out)
  have HV := hide (show Below w.heap.size w V by rw [← hV.out]; exact below_alloc w _)
  have HS := hide (show V.heap.size = w.heap.size + 1 by rw [← hV.out]; simp)
  clear hV
  have hown0 : V.ownsRow (w.heap.size + 1) 3 1 (.slice none 0 0) (4 * 0) (IV (Sg.pre d (4 * 0))) := ⟨rfl, .inl ⟨rfl, rfl⟩⟩
  have HO0 := hide hown0
  clear hown0
  go_loopw [3, 4, 5] (fun s3 s4 s5 wr => ∃ i : Nat, i ≤ 16 ∧ s5 = .int .i64 (i : Int) ∧ s4 = .int .i64 ((Sg.lack d (4 * i) : Nat) : Int) ∧ wr.ownsRow (w.heap.size + 1) 3 1 s3 (4 * i) (IV (Sg.pre d (4 * i))) ∧ Below (w.heap.size + 1) V wr) (fun _ _ s5 _ => 16 - (intOf s5).toNat)
  case atStart => exact ⟨0, by omega, rfl, rfl, HO0.out, Below.refl _ _⟩
  case round =>
    obtain ⟨i, hi, rfl, rfl, hown, hbel⟩ := hrel
    obtain ⟨wd, rfl⟩ : ∃ wd, wd = wr := ⟨wr, rfl⟩
    have HO := hide hown
    have HB := hide hbel
    have HDG := hide (D1.out.below HB.out (by omega))
    have HSZ := hide (show w.heap.size + 1 ≤ wd.heap.size by have := HB.out.size; have := HS.out; omega)
    clear hown hbel HO0
    by_cases hlt : i < 16
    · have hid : i < d.length := by have := HD.out; omega
      have hcell : wd.cell? ⟨w.heap.size, i, none⟩ = some (.int .u8 ((d[i].toNat : Nat) : Int)) := by rw [HDG.out.2.cell, List.getElem?_toArray, BV_get d i hid]
      obtain ⟨q0, q1, q2, q3⟩ := Sg.dig_of_byte d i hid HD.out
      have hby := d[i].toNat_lt
      have hi0 : (0 : Int) ≤ (i : Int) := by omega
      have htest : (i : Int) < 16 := by omega
      generalize d[i].toNat = x at *
      have E0 := hide (rfl : Sg.dig d (4 * i + 0) = Sg.dig d (4 * i + 0))
      generalize hd0 : Sg.dig d (4 * i) = d0 at *
      generalize hd1 : Sg.dig d (4 * i + 1) = d1 at *
      generalize hd2 : Sg.dig d (4 * i + 2) = d2 at *
      generalize hd3 : Sg.dig d (4 * i + 3) = d3 at *
      have HD0 := hide hd0
      have HD1 := hide hd1
      have HD2 := hide hd2
      have HD3 := hide hd3
      clear hd0 hd1 hd2 hd3 E0
      go_upto_region 9 with fail
      generalize hcs : (#[Value.int .i64 (d0 : Int), .int .i64 (d1 : Int), .int .i64 (d2 : Int), .int .i64 (d3 : Int)] : Array Value) = cs
      have hget : ∀ k, k < 4 → cs[k]? = some (.int .i64 (Sg.dig d (4 * i + k) : Int)) := by
        intro k hk
        rw [← hcs]
        obtain rfl | rfl | rfl | rfl : k = 0 ∨ k = 1 ∨ k = 2 ∨ k = 3 := by omega
        · rw [Nat.add_zero, HD0.out]; rfl
        · rw [HD1.out]; rfl
        · rw [HD2.out]; rfl
        · rw [HD3.out]; rfl
      have HG := hide hget
      clear hget hcs HD0 HD1 HD2 HD3 q0 q1 q2 q3
      refine name_world fun X hX => ?_
      have HF := hide (show Blk X wd.heap.size 3 cs by rw [← hX.out]; exact Blk.new wd _ _)
      have HOX := hide (show X.ownsRow (w.heap.size + 1) 3 1 _ (4 * i) (IV (Sg.pre d (4 * i))) by rw [← hX.out]; exact HO.out.alloc _)
      have HBX := hide (show Below (w.heap.size + 1) V X by rw [← hX.out]; exact HB.out.trans (below_alloc' wd _ HSZ.out))
      have HNE := hide (own_fresh HO.out (Nat.le_refl _))
      clear hX HO
      go_loopw [3, 4, 8] (fun s3 s4 s8 wr => ∃ k : Nat, k ≤ 4 ∧ s8 = .int .i64 (k : Int) ∧ s4 = .int .i64 ((Sg.lack d (4 * i + k) : Nat) : Int) ∧ wr.ownsRow (w.heap.size + 1) 3 1 s3 (4 * i + k) (IV (Sg.pre d (4 * i + k))) ∧ Blk wr wd.heap.size 3 cs ∧ s3.ownBlock ≠ some wd.heap.size ∧ Below (w.heap.size + 1) V wr) (fun _ _ s8 _ => 4 - (intOf s8).toNat)
      case atStart => exact ⟨0, by omega, rfl, rfl, HOX.out, HF.out, HNE.out, HBX.out⟩
      case round =>
        obtain ⟨k, hk, rfl, rfl, hown, hF, hne, hbel⟩ := hrel
        have HOR := hide hown
        have HFR := hide hF
        have HNR := hide hne
        have HBR := hide hbel
        clear hown hF hne hbel
        by_cases hlt4 : k < 4
        · have hck : wr.cell? ⟨wd.heap.size, k, none⟩ = some (.int .i64 (Sg.dig d (4 * i + k) : Int)) := by rw [HFR.out.cell]; exact HG.out k hlt4
          have HGK := hide (HG.out k hlt4)
          have hk0 : (0 : Int) ≤ (k : Int) := by omega
          have htk : (k : Int) < 4 := by omega
          have hgl := Sg.dig_le d (4 * i + k)
          have hlk := Sg.lack_le d (4 * i + k)
          have HP := hide (Sg.pre_succ d (4 * i + k))
          have HL := hide (Sg.lack_dig d (4 * i + k) (by omega))
          generalize Sg.dig d (4 * i + k) = g at *
          generalize Sg.lack d (4 * i + k) = lk at *
          have hg0 : (0 : Int) ≤ (g : Int) := by omega
          have hg3 : (g : Int) ≤ 3 := by omega
          have hl0 : (0 : Int) ≤ (lk : Int) := by omega
          have hl1 : (lk : Int) ≤ 204 := by omega
          have HSR := hide (show w.heap.size + 1 ≤ wr.heap.size by have := HBR.out.size; have := HS.out; omega)
          clear hgl hlk
          go_wp2_with (at_builtin; refine wpList_append_any _ rfl (.tmp 32) (.tmp 37) 25 rfl (w.heap.size + 1) 3 i0 (.int .i64 0) 1 8 Tryd.underlying25 HI.out HZ0.out HZ1.out HZ2.out rfl (by omega) _ (4 * i + k) _ rfl (HOR.out.alloc _) _ (some ⟨wr.heap.size, 0, none⟩) 1 1 [.int .i64 (g : Int)] rfl (reads_new wr _ _) (by simp [Value.oneCell']) (by unfold maxLen; omega) (by omega) (by have := HSR.out; simp; omega) ?_; intro v6 w6 hown6 hgrow6 hat6; have HO6 := hide hown6; have HF6 := hide ((HFR.out.alloc _).grow_ hgrow6 HNR.out); have HN6 := hide (far_next HNR.out (by have := HFR.out.lt_; simp; omega) hat6); have HB6 := hide ((HBR.out.trans (below_alloc' wr _ HSR.out)).trans (below_grown hgrow6 (HOR.out.alloc _) (by have := HSR.out; simp; omega))); have hc6 : w6.cell? ⟨wd.heap.size, k, none⟩ = some (.int .i64 (g : Int)) := (by rw [HF6.out.cell]; exact HGK.out); clear hown6 hgrow6 hat6)
          refine ⟨⟨k + 1, by omega, by go_num, by rw [← Nat.add_assoc, HL.out]; congr 1; omega, by rw [← Nat.add_assoc, HP.out, ← IV_snoc]; exact HO6.out, HF6.out, HN6.out, HB6.out⟩, by simp [intOf]; omega⟩
        · obtain rfl : k = 4 := by omega
          go_wp2
          refine ⟨⟨i + 1, by omega, by go_num, by rw [show 4 * (i + 1) = 4 * i + 4 by omega], by rw [show 4 * (i + 1) = 4 * i + 4 by omega]; exact HOR.out, HBR.out⟩, by simp [intOf]; omega⟩
    · obtain rfl : i = 16 := by omega
      have hlk := Sg.lack_le d 64
      obtain ⟨q0, q1, q2, q3⟩ := Sg.sum_digs d
      have P1 := hide (Sg.pre_succ d 64)
      have P2 := hide (Sg.pre_succ d 65)
      have P3 := hide (Sg.pre_succ d 66)
      have P4 := hide (Sg.pre_succ d 67)
      have HO : Hid (wd.ownsRow (w.heap.size + 1) 3 1 _ 64 (IV (Sg.pre d 64))) := HO
      rw [show 4 * 16 = 64 from rfl]
      generalize Sg.lack d 64 = lk at *
      generalize Sg.dig d 64 = d0 at *
      generalize Sg.dig d 65 = d1 at *
      generalize Sg.dig d 66 = d2 at *
      generalize Sg.dig d 67 = d3 at *
      have hl0 : (0 : Int) ≤ (lk : Int) := by omega
      have hl1 : (lk : Int) ≤ 192 := by omega
      go_wp2_with (at_builtin; refine wpList_append_any _ rfl (.tmp 46) (.tmp 57) 25 rfl (w.heap.size + 1) 3 i0 (.int .i64 0) 1 8 Tryd.underlying25 HI.out HZ0.out HZ1.out HZ2.out rfl (by omega) _ 64 _ rfl (HO.out.alloc _) _ (some ⟨wd.heap.size, 0, none⟩) 4 4 [.int .i64 (d0 : Int), .int .i64 (d1 : Int), .int .i64 (d2 : Int), .int .i64 (d3 : Int)] rfl (reads_block wd _ _ 4 rfl) (by simp [Value.oneCell']) (by unfold maxLen; omega) (by omega) (by have := HSZ.out; simp; omega) ?_; intro v6 w6 hown6 hgrow6 hat6; have HO6 := hide hown6; have HB6 := hide ((HB.out.trans (below_alloc' wd _ HSZ.out)).trans (below_grown hgrow6 (HO.out.alloc _) (by have := HSZ.out; simp; omega))); clear hown6 hgrow6 hat6)
      go_ret
      refine ⟨v6, rfl, ?_, HV.out.trans (HB6.out.mono (by omega))⟩
      rw [← Sg.pre_all, show (68 : Nat) = 67 + 1 from rfl, P4.out, show (67 : Nat) = 66 + 1 from rfl, P3.out, show (66 : Nat) = 65 + 1 from rfl, P2.out, show (65 : Nat) = 64 + 1 from rfl, P1.out]
      have h := HO6.out
      rw [show (64 + 4 : Nat) = 68 from rfl] at h
      simpa [IV] using h
set_option maxHeartbeats 4000000 in
set_option maxRecDepth 100000 in
theorem digitsMatch_walk (d : List UInt8) (w : World) (hd : d.length = 16) (hK : KLaid w) :
    Calls Tryd.prog 3 #[.agg (BV d).toArray] w fun e w' => e = .returned (.bool true) ∧ Below w.heap.size w w' := by
  have CSA := hide (fun (W : World) hK => sanity_any W hK)
  have CA := hide (fun (W : World) => digits_any d W hd)
  have CB := hide (fun (W : World) => refDigits_any d W hd)
  have HK := hide hK
  have HD := hide hd
  clear hK hd
  go_enter Tryd.func3, Tryd.ntmps3
  go_upto_region 1 with fail
  refine name_world fun V hV => ?_
  have D1 := hide (show Dig V w.heap.size d by rw [← hV.out]; exact Dig.new w d HD.out)
  have HV := hide (show Below w.heap.size w V by rw [← hV.out]; exact below_alloc w _)
  have HS := hide (show V.heap.size = w.heap.size + 1 by rw [← hV.out]; simp)
  clear hV
  have hl1 := D1.out.2.lt
  go_upto_region 2 with (go_at_call 9; refine (unhide CSA V (HK.out.below HV.out (Nat.le_refl _))).mono ?_; rintro e x1 ⟨rfl, hb1⟩; have X1 := hide hb1; clear hb1)
  have E1 := hide (D1.out.below X1.out hl1)
  have hx1 := X1.out.size
  go_upto_region 3 with (first
    | (with_reducible refine wpList_load_dig rfl (.tmp 1) rfl w.heap.size rfl d E1.out ?_)
    | (go_at_call 10; refine (CA.out x1).mono ?_; rintro e x2 ⟨rfl, hga, hb2⟩; have X2 := hide hb2; have GA := hide hga; clear hb2 hga))
  have F1 := hide (E1.out.below X2.out (by omega))
  have hx2 := X2.out.size
  have hga := GA.out.lt
  go_upto_region 4 with (first
    | (with_reducible refine wpList_load_dig rfl (.tmp 1) rfl w.heap.size rfl d F1.out ?_)
    | (go_at_call 11; refine (CB.out x2).mono ?_; rintro e x3 ⟨vb, rfl, hob, hb3⟩; have X3 := hide hb3; have OB := hide hob; clear hb3 hob))
  have HX := hide (HV.out.trans ((X1.out.trans ((X2.out.trans (X3.out.mono hx2)).mono hx1)).mono HV.out.size))
  have KA := hide (GA.out.below X3.out hga)
  obtain ⟨ga, hgae⟩ : ∃ ga, x1.heap.size + 1 = ga := ⟨_, rfl⟩
  rw [hgae] at KA
  obtain ⟨gb, cap, hve, hcap, hcb⟩ : ∃ gb cap, vb = .slice (some ⟨gb, 0, none⟩) 68 cap ∧ 68 ≤ cap ∧ ∃ cur, Blk x3 gb 3 cur ∧ ∀ j, j < 68 → cur[j]? = (IV (Sg.digits d))[j]? := by
    rcases OB.out.2 with ⟨_, h0⟩ | ⟨g, cap, cur, h1, h2, h3, h4, h5, h6, h7⟩
    · exact absurd h0 (by decide)
    · refine ⟨g, cap, h1, h4, cur, h3, fun j hj => ?_⟩
      rw [← h7, List.getElem?_take, if_pos (by omega), Array.getElem?_toList]
  obtain ⟨cur, hcb, hcur⟩ := hcb
  subst hve
  have KB := hide hcb
  have HCUR := hide hcur
  have hcap2 : (68 : Int) ≤ (cap : Int) := by omega
  clear hcb hcur OB D1 E1 F1 CA CB CSA
  rw [hgae]
  clear hgae GA
  go_upto_region 7 with fail
  go_loopw [6] (fun s6 wr => ∃ i : Nat, i ≤ 68 ∧ s6 = .int .i64 (i : Int) ∧ Blk wr ga 43 (IV (Sg.digits d)).toArray ∧ Blk wr gb 3 cur ∧ Below w.heap.size w wr) (fun s6 _ => 68 - (intOf s6).toNat)
  case atStart => exact ⟨0, by omega, rfl, KA.out, KB.out, HX.out⟩
  case round =>
    obtain ⟨i, hi, rfl, hKA, hKB, hbel⟩ := hrel
    obtain ⟨wd, rfl⟩ : ∃ wd, wd = wr := ⟨wr, rfl⟩
    by_cases hlt : i < 68
    · have hca : wd.cell? ⟨ga, i, none⟩ = some (.int .i64 ((Sg.dig d i : Nat) : Int)) := by rw [hKA.cell]; exact IV_get _ _ _ (Sg.digits_get d i hlt)
      have hcb : wd.cell? ⟨gb, i, none⟩ = some (.int .i64 ((Sg.dig d i : Nat) : Int)) := by rw [hKB.cell, HCUR.out i hlt, ← List.getElem?_toArray]; exact IV_get _ _ _ (Sg.digits_get d i hlt)
      have htest : (i : Int) < 68 := by omega
      have hi0 : (0 : Int) ≤ (i : Int) := by omega
      have hg3 : ((Sg.dig d i : Nat) : Int) ≤ 3 := by have := Sg.dig_le d i; omega
      have hg0 : (0 : Int) ≤ ((Sg.dig d i : Nat) : Int) := by omega
      have JA := hide hKA
      have JB := hide hKB
      have JE := hide hbel
      clear hKA hKB hbel KA KB HX
      generalize ((Sg.dig d i : Nat) : Int) = g at *
      go_upto_region 9 with fail
      go_quiet (fail)
      go_wp2
      exact ⟨⟨i + 1, by omega, by go_num, JA.out, JB.out, below_drewN JE.out _⟩, by simp [intOf]; omega⟩
    · obtain rfl : i = 68 := by omega
      have HBe := hide hbel
      clear hKA hKB hbel KA KB HX
      go_wp2
      go_ret
      exact ⟨rfl, HBe.out⟩
end Go.Proofs.YtedgjpoejoepjaaDoor
