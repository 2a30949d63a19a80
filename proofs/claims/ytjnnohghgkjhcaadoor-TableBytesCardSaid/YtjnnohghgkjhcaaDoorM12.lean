/-
  The reference's GetInt by its contract: it answers what the plain decoding answers.
-/
import Derived.Test.YtjnnohghgkjhcaaDoorM3
import Derived.Deep.RegionWith
import Derived.IntWalk
namespace Go.Proofs.YtjnnohghgkjhcaaDoor
open Go.RowKit
set_option linter.unusedVariables false
set_option linter.unusedSimpArgs false
theorem vk_grow (f : UInt8) (t : List UInt8) (j k : Nat) (hjk : j < k) (hk : k ≤ t.length) : vk f t j * 256 ≤ vk f t k := by
 induction k with
 | zero => omega
 | succ k ih =>
  rw [vk_succ f t k (by omega)]
  rcases Nat.lt_or_ge j k with h | h
  ·have := ih h (by omega)
   omega
  ·obtain rfl : j = k := by omega
   omega
theorem kOf_val (h : UInt8) : Wr.kOf h = if h.toNat < 128 then 127 - h.toNat else h.toNat - 128 := by
 have H : ∀ h : Fin 256, Wr.kOf (UInt8.ofNat h.val) = if (UInt8.ofNat h.val).toNat < 128 then 127 - (UInt8.ofNat h.val).toNat else (UInt8.ofNat h.val).toNat - 128 := by decide +kernel
 have := H ⟨h.toNat, h.toNat_lt⟩
 simpa only [UInt8.ofNat_toNat] using this
def candOf (h : UInt8) (t : List UInt8) : Int := if h < 128 then -1 - (vk (Wr.flipOf h) t (Wr.kOf h) : Int) else (vk (Wr.flipOf h) t (Wr.kOf h) : Int)
theorem cand_inI (h : UInt8) (t : List UInt8) (hv : vk (Wr.flipOf h) t (Wr.kOf h) ≤ 9223372036854775807) : Wr.inI (candOf h t) := by
 unfold candOf Wr.inI; split <;> omega
theorem cand_good (h : UInt8) (t : List UInt8) (hk8 : Wr.kOf h ≤ 8) (hl : Wr.kOf h ≤ t.length) (hv : vk (Wr.flipOf h) t (Wr.kOf h) ≤ 9223372036854775807) (hb : ¬ (0 < Wr.kOf h ∧ t.head? = some (Wr.flipOf h))) :
  Wr.enc (candOf h t) = (h :: t).take (Wr.kOf h + 1) ∧ Wr.decI (h :: t) = (candOf h t, Wr.kOf h + 1, 0) := by
 have h1 := dec_good h t hk8 hl (fun x => x.elim hb (by omega))
 have h2 := Wr.enc_dec h1
 rw [Nat.add_comm 1] at h1 h2
 exact ⟨h2.2.2.2.2.symm, h1⟩
theorem cand_bad (h : UInt8) (t : List UInt8) (hk8 : Wr.kOf h ≤ 8) (hl : Wr.kOf h ≤ t.length) (hv : vk (Wr.flipOf h) t (Wr.kOf h) ≤ 9223372036854775807) (hb : 0 < Wr.kOf h ∧ t.head? = some (Wr.flipOf h)) :
  Wr.enc (candOf h t) ≠ (h :: t).take (Wr.kOf h + 1) ∧ Wr.decI (h :: t) = (0, 0, 2) := by
 have h1 := dec_bad h t hk8 hl (.inl hb)
 refine ⟨fun he => ?_, h1⟩
 have h2 := Wr.dec_enc (cand_inI h t hv) ((h :: t).drop (Wr.kOf h + 1))
 rw [he, List.take_append_drop, h1] at h2
 simp at h2
theorem BV_item (L : List UInt8) : ∀ k, (hk : k < (BV L).length) → (BV L)[k] = .int .u8 ((L.getD k 0).toNat : Int) := fun k hk => by
 have hk' : k < L.length := by rw [BV_len] at hk; exact hk
 simp [BV, List.getD, hk']
theorem reads_plus {w : World} {B n : Nat} {ad : Addr} {l : List UInt8} (hr : Reads w B 1 (some ad) n (BV l)) (i : Nat) (hi : i + 1 < l.length) : w.cell? ⟨ad.block, ad.off + (i + 1), none⟩ = some (.int .u8 ((l[i + 1]'hi).toNat : Int)) := by
 have := reads_far hr i hi
 rwa [Nat.add_assoc, Nat.add_comm 1 i] at this
theorem reads_head {w : World} {B n : Nat} {ad : Addr} {l : List UInt8} (hr : Reads w B 1 (some ad) n (BV l)) (z : Nat) (h : z ≤ n) : Reads w B 1 (some ad) z (BV (l.take z)) := by
 have := reads_sub hr 0 z (by omega)
 rwa [List.drop_zero, show ad.add 0 = ad by simp [Addr.add]] at this
set_option maxHeartbeats 400000 in
set_option maxRecDepth 100000 in
theorem refGetInt_nil (A : Option Addr) (c : Nat) (w : World) :
  Calls Tryd.prog 35 #[.slice A 0 c] w fun e w' => e = .returned (.tuple #[.int .i64 0, .int .i64 0, .int .i64 3]) ∧ w = w' := by
 go_enter Tryd.func35, Tryd.ntmps35
 go_wp2
 go_ret3
 exact ⟨rfl, rfl⟩
set_option maxHeartbeats 400000 in
set_option maxRecDepth 100000 in
theorem refGetInt_early (ad : Addr) (n c : Nat) (h : UInt8) (t : List UInt8) (w : World) (hr : Reads w w.heap.size 1 (some ad) n (BV (h :: t))) (hm : n ≤ maxLen) (hk : 8 < Wr.kOf h ∨ t.length < Wr.kOf h) :
  Calls Tryd.prog 35 #[.slice (some ad) n c] w fun e w' => e = .returned (.tuple #[.int .i64 0, .int .i64 0, .int .i64 (if 8 < Wr.kOf h then 2 else 3)]) ∧ w = w' := by
 have hn : n = t.length + 1 := by have := hr.1; simp [BV] at this; omega
 have hc : w.cell? ad = some (.int .u8 (h.toNat : Int)) := reads_cell hr 0 (by simp)
 have h0 : ((n : Int) == 0) = false := by rw [beq_eq_false_iff_ne]; omega
 have hp : 0 < n := by omega
 have hkv := kOf_val h
 have hb := h.toNat_lt
 unfold maxLen at hm
 generalize Wr.kOf h = k at *
 generalize h.toNat = hd at *
 have HC := hide hc
 by_cases hs : hd < 128
 ·rw [if_pos hs] at hkv
  by_cases hk8 : 8 < k
  ·rw [if_pos hk8]
   have h1 : (hd : Int) < 119 := by omega
   clear hr hn hkv
   go_enter Tryd.func35, Tryd.ntmps35
   go_wp2
   go_ret3
   exact ⟨rfl, rfl⟩
  ·rw [if_neg hk8]
   have h1 : ¬ (hd : Int) < 119 := by omega
   have h2 : ¬ (136 : Int) < (hd : Int) := by omega
   have h3 : (hd : Int) < 128 := by omega
   have hl : (n : Int) < 127 - (hd : Int) + 1 := by omega
   clear hr hn hkv
   go_enter Tryd.func35, Tryd.ntmps35
   go_wp2
   go_ret3
   exact ⟨rfl, rfl⟩
 ·rw [if_neg hs] at hkv
  by_cases hk8 : 8 < k
  ·rw [if_pos hk8]
   have h1 : ¬ (hd : Int) < 119 := by omega
   have h2 : (136 : Int) < (hd : Int) := by omega
   clear hr hn hkv
   go_enter Tryd.func35, Tryd.ntmps35
   go_wp2
   go_ret3
   exact ⟨rfl, rfl⟩
  ·rw [if_neg hk8]
   have h1 : ¬ (hd : Int) < 119 := by omega
   have h2 : ¬ (136 : Int) < (hd : Int) := by omega
   have h3 : ¬ (hd : Int) < 128 := by omega
   have hl : (n : Int) < (hd : Int) - 128 + 1 := by omega
   clear hr hn hkv
   go_enter Tryd.func35, Tryd.ntmps35
   go_wp2
   go_ret3
   exact ⟨rfl, rfl⟩
set_option maxHeartbeats 400000 in
set_option maxRecDepth 100000 in
theorem refGetInt_loop_neg (ad : Addr) (n c : Nat) (h : UInt8) (t : List UInt8) (w : World) (hr : Reads w w.heap.size 1 (some ad) n (BV (h :: t))) (hm : n ≤ maxLen) (hnc : n ≤ c) (hk8 : Wr.kOf h ≤ 8) (hl : Wr.kOf h ≤ t.length) (hs : h.toNat < 128) :
  Calls Tryd.prog 35 #[.slice (some ad) n c] w fun e w' => e = .returned (.tuple #[.int .i64 (Wr.decI (h :: t)).1, .int .i64 (Wr.decI (h :: t)).2.1, .int .i64 (Wr.decI (h :: t)).2.2]) ∧ Below w.heap.size w w' := by
 have hn : n = t.length + 1 := by have := hr.1; simp [BV] at this; omega
 have hc : w.cell? ad = some (.int .u8 (h.toNat : Int)) := reads_cell hr 0 (by simp)
 have h0 : ((n : Int) == 0) = false := by rw [beq_eq_false_iff_ne]; omega
 have hp : 0 < n := by omega
 have hb0 := h.toNat_lt
 have hkv := kOf_val h
 rw [if_pos hs] at hkv
 obtain ⟨hfl, hlt128⟩ := flip_neg h hs
 have DB := hide (dec_bad h t hk8 hl)
 have CG := hide (cand_good h t hk8 hl)
 have CB := hide (cand_bad h t hk8 hl)
 have CI := hide (cand_inI h t)
 have CV : candOf h t = -1 - (vk 255 t (Wr.kOf h) : Int) := by unfold candOf; rw [if_pos hlt128, hfl]
 rw [hfl] at DB CG CB CI
 have HR := hide hr
 have HN := hide hn
 have HT := hide (reads_head hr (Wr.kOf h + 1) (by omega))
 have HX := hide (BV_item ((h :: t).take (Wr.kOf h + 1)))
 have HLT := hide hl
 generalize hcz : candOf h t = z at *
 generalize hdd : Wr.decI (h :: t) = D at *
 generalize hhd : (h :: t).take (Wr.kOf h + 1) = HD at *
 generalize hkk : Wr.kOf h = k at *
 have hl1 : k + 1 ≤ n := by omega
 have HK := hide hkk
 have HCV := hide CV
 clear hr hn hfl hlt128 hl hkk hhd hdd hcz CV
 unfold maxLen at hm
 generalize h.toNat = hd at *
 have h1 : ¬ (hd : Int) < 119 := by omega
 have h2 : ¬ (136 : Int) < (hd : Int) := by omega
 have h3 : (hd : Int) < 128 := by omega
 have hsub : (127 : Int) - (hd : Int) = (k : Int) := by omega
 clear hkv
 go_enter Tryd.func35, Tryd.ntmps35
 go_wp2
 go_loop [7, 8] (fun m i => ∃ j : Nat, j ≤ k ∧ i = .int .i64 ((j : Int) + 1) ∧ m = .int .i64 (vk 255 t j) ∧ vk 255 t j ≤ 9223372036854775807) (fun _ i => k + 1 - (intOf i).toNat)
 case atStart => exact ⟨0, Nat.zero_le _, rfl, rfl, by rw [vk_zero]; omega⟩
 case round =>
  obtain ⟨j, hj, rfl, rfl, hv⟩ := hrel
  by_cases hlt : j < k
  ·have hjt : j < t.length := by have := HLT.out; omega
   have hcell := reads_plus HR.out j (by simp; omega)
   simp only [List.getElem_cons_succ] at hcell
   have hb := (t[j]).toNat_lt
   have HV := hide (vk_succ 255 t j hjt)
   have hgrow := vk_grow 255 t j k hlt HLT.out
   have hxx : (t[j] ^^^ 255).toNat = 255 - (t[j]).toNat := by rw [Wr.xor_toNat]
   have HXX := hide hxx
   have HF := hide (fun (hM : 36028797018963967 < vk 255 t j) => DB.out (.inr (by rw [HK.out] at *; omega)))
   clear hxx hgrow
   generalize (t[j] ^^^ 255).toNat = b' at *
   generalize (t[j]).toNat = b at *
   generalize hvv : vk 255 t j = m at *
   by_cases hM : 36028797018963967 < m
   ·have HF := hide (HF.out hM)
    have hM' : (36028797018963967 : Int) < (m : Int) := by omega
    go_wp2
    go_ret3
    rw [HF.out]
    exact ⟨rfl, Below.refl _ _⟩
   ·have hM' : ¬ (36028797018963967 : Int) < (m : Int) := by omega
    go_wp2
    go_round
    case rel => exact ⟨j + 1, by omega, by go_num, by rw [HV.out, HXX.out]; go_num, by rw [HV.out, HXX.out]; omega⟩
    case measure => simp [intOf]; omega
  ·obtain rfl : j = k := by omega
   have hin := CI.out hv
   have e9 := Wr.enc_le z
   have HHT := hide (fun (W : World) (hb : Below w.heap.size w W) => (HT.out.below hb).more hb.size)
   by_cases hB : 0 < j ∧ t.head? = some 255
   ·obtain ⟨hne, hdec⟩ := CB.out hv hB
    have HE := hide (fun W => refInt_any z W hin)
    generalize Wr.enc z = y at *
    generalize hL : y.length = L at *
    obtain rfl := HCV.out
    subst hdec
    have HNE := hide hne
    generalize vk 255 t j = m at *
    clear hne hB hin hL CG CB CI DB HX HCV
    have hmx : L ≤ maxLen := by unfold maxLen; omega
    have hw4 : (j : Int) + 1 ≤ (c : Int) := by omega
    have hw2 : (0 : Int) ≤ (j : Int) + 1 := by omega
    have hw3 : ((j : Int) + 1).toNat = j + 1 := by omega
    go_upto_region 24 with fail
    have hw1 : IntKind.i64.wrap ((j : Int) + 1) = (j : Int) + 1 := IntWalk.i64_in _ (by omega)
    go_region_with (first
     | (go_at_call 26; refine (unhide HE _).mono ?_; rintro e w1 ⟨v1, rfl, hown1, hb1⟩; obtain ⟨A1, c1, rfl, hc1, _⟩ := own_slice hown1; have HR1 := hide (Reads.of_own hown1); have HB1 := hide (below_drawn hb1); clear hown1 hb1)
     | (go_at_call 7; refine (same_ne A1 (some ad) L (j + 1) c1 c y HD w1 HR1.out (unhide HHT w1 HB1.out) hmx HNE.out).mono ?_; rintro e w2 ⟨rfl, k2, hk2⟩; subst hk2))
    all_goals (clear hw1 hw2 hw3 hw4; go_wp2; go_ret3; exact ⟨rfl, below_drewN HB1.out _⟩)
   ·obtain ⟨he, hdec⟩ := CG.out hv hB
    have HE := fun W => refInt_any z W hin
    rw [he] at HE e9
    have hlen : HD.length = j + 1 := by have := HT.out.1; rw [BV_len] at this; omega
    rw [hlen] at HE
    have HE := hide HE
    obtain rfl := HCV.out
    subst hdec
    generalize hvv : vk 255 t j = m at *
    have HVV := hide hvv
    clear hvv hB hin he CG CB CI DB HCV hlen
    have hmx : j + 1 ≤ maxLen := by unfold maxLen; omega
    have hw4 : (j : Int) + 1 ≤ (c : Int) := by omega
    have hw2 : (0 : Int) ≤ (j : Int) + 1 := by omega
    have hw3 : ((j : Int) + 1).toNat = j + 1 := by omega
    go_upto_region 24 with fail
    have hw1 : IntKind.i64.wrap ((j : Int) + 1) = (j : Int) + 1 := IntWalk.i64_in _ (by omega)
    go_region_with (first
     | (go_at_call 26; refine (unhide HE _).mono ?_; rintro e w1 ⟨v1, rfl, hown1, hb1⟩; obtain ⟨A1, c1, rfl, hc1, _⟩ := own_slice hown1; have HR1 := hide (Reads.of_own hown1); have HB1 := hide (below_drawn hb1); clear hown1 hb1)
     | (go_at_call 7; refine (same_eqF A1 (some ad) (j + 1) c1 c (BV HD) _ w1 HX.out HR1.out (unhide HHT w1 HB1.out) hmx).mono ?_; rintro e w2 ⟨rfl, k2, hk2⟩; subst hk2))
    all_goals (clear hw1 hw2 hw3 hw4; go_wp2; go_ret3; exact ⟨by first | (simp; done) | simp [HVV.out], below_drewN HB1.out _⟩)
set_option maxHeartbeats 400000 in
set_option maxRecDepth 100000 in
theorem refGetInt_loop_pos (ad : Addr) (n c : Nat) (h : UInt8) (t : List UInt8) (w : World) (hr : Reads w w.heap.size 1 (some ad) n (BV (h :: t))) (hm : n ≤ maxLen) (hnc : n ≤ c) (hk8 : Wr.kOf h ≤ 8) (hl : Wr.kOf h ≤ t.length) (hs : ¬ h.toNat < 128) :
  Calls Tryd.prog 35 #[.slice (some ad) n c] w fun e w' => e = .returned (.tuple #[.int .i64 (Wr.decI (h :: t)).1, .int .i64 (Wr.decI (h :: t)).2.1, .int .i64 (Wr.decI (h :: t)).2.2]) ∧ Below w.heap.size w w' := by
 have hn : n = t.length + 1 := by have := hr.1; simp [BV] at this; omega
 have hc : w.cell? ad = some (.int .u8 (h.toNat : Int)) := reads_cell hr 0 (by simp)
 have h0 : ((n : Int) == 0) = false := by rw [beq_eq_false_iff_ne]; omega
 have hp : 0 < n := by omega
 have hb0 := h.toNat_lt
 have hkv := kOf_val h
 rw [if_neg hs] at hkv
 obtain ⟨hfl, hlt128⟩ := flip_pos h hs
 have DB := hide (dec_bad h t hk8 hl)
 have CG := hide (cand_good h t hk8 hl)
 have CB := hide (cand_bad h t hk8 hl)
 have CI := hide (cand_inI h t)
 have CV : candOf h t = (vk 0 t (Wr.kOf h) : Int) := by unfold candOf; rw [if_neg hlt128, hfl]
 rw [hfl] at DB CG CB CI
 have HR := hide hr
 have HN := hide hn
 have HT := hide (reads_head hr (Wr.kOf h + 1) (by omega))
 have HX := hide (BV_item ((h :: t).take (Wr.kOf h + 1)))
 have HLT := hide hl
 generalize hcz : candOf h t = z at *
 generalize hdd : Wr.decI (h :: t) = D at *
 generalize hhd : (h :: t).take (Wr.kOf h + 1) = HD at *
 generalize hkk : Wr.kOf h = k at *
 have hl1 : k + 1 ≤ n := by omega
 have HK := hide hkk
 have HCV := hide CV
 clear hr hn hfl hlt128 hl hkk hhd hdd hcz CV
 unfold maxLen at hm
 generalize h.toNat = hd at *
 have h1 : ¬ (hd : Int) < 119 := by omega
 have h2 : ¬ (136 : Int) < (hd : Int) := by omega
 have h3 : ¬ (hd : Int) < 128 := by omega
 have hsub : (hd : Int) - 128 = (k : Int) := by omega
 clear hkv
 go_enter Tryd.func35, Tryd.ntmps35
 go_wp2
 go_loop [7, 8] (fun m i => ∃ j : Nat, j ≤ k ∧ i = .int .i64 ((j : Int) + 1) ∧ m = .int .i64 (vk 0 t j) ∧ vk 0 t j ≤ 9223372036854775807) (fun _ i => k + 1 - (intOf i).toNat)
 case atStart => exact ⟨0, Nat.zero_le _, rfl, rfl, by rw [vk_zero]; omega⟩
 case round =>
  obtain ⟨j, hj, rfl, rfl, hv⟩ := hrel
  by_cases hlt : j < k
  ·have hjt : j < t.length := by have := HLT.out; omega
   have hcell := reads_plus HR.out j (by simp; omega)
   simp only [List.getElem_cons_succ] at hcell
   have hb := (t[j]).toNat_lt
   have HV := hide (vk_succ 0 t j hjt)
   have hgrow := vk_grow 0 t j k hlt HLT.out
   have hxx : (t[j] ^^^ 0).toNat = (t[j]).toNat := by rw [UInt8.xor_zero]
   have HXX := hide hxx
   have HF := hide (fun (hM : 36028797018963967 < vk 0 t j) => DB.out (.inr (by rw [HK.out] at *; omega)))
   clear hxx hgrow
   generalize (t[j] ^^^ 0).toNat = b' at *
   generalize (t[j]).toNat = b at *
   generalize hvv : vk 0 t j = m at *
   by_cases hM : 36028797018963967 < m
   ·have HF := hide (HF.out hM)
    have hM' : (36028797018963967 : Int) < (m : Int) := by omega
    go_wp2
    go_ret3
    rw [HF.out]
    exact ⟨rfl, Below.refl _ _⟩
   ·have hM' : ¬ (36028797018963967 : Int) < (m : Int) := by omega
    go_wp2
    go_round
    case rel => exact ⟨j + 1, by omega, by go_num, by rw [HV.out, HXX.out]; go_num, by rw [HV.out, HXX.out]; omega⟩
    case measure => simp [intOf]; omega
  ·obtain rfl : j = k := by omega
   have hin := CI.out hv
   have e9 := Wr.enc_le z
   have HHT := hide (fun (W : World) (hb : Below w.heap.size w W) => (HT.out.below hb).more hb.size)
   by_cases hB : 0 < j ∧ t.head? = some 0
   ·obtain ⟨hne, hdec⟩ := CB.out hv hB
    have HE := hide (fun W => refInt_any z W hin)
    generalize Wr.enc z = y at *
    generalize hL : y.length = L at *
    obtain rfl := HCV.out
    subst hdec
    have HNE := hide hne
    generalize vk 0 t j = m at *
    clear hne hB hin hL CG CB CI DB HX HCV
    have hmx : L ≤ maxLen := by unfold maxLen; omega
    have hw4 : (j : Int) + 1 ≤ (c : Int) := by omega
    have hw2 : (0 : Int) ≤ (j : Int) + 1 := by omega
    have hw3 : ((j : Int) + 1).toNat = j + 1 := by omega
    go_upto_region 24 with fail
    have hw1 : IntKind.i64.wrap ((j : Int) + 1) = (j : Int) + 1 := IntWalk.i64_in _ (by omega)
    go_region_with (first
     | (go_at_call 26; refine (unhide HE _).mono ?_; rintro e w1 ⟨v1, rfl, hown1, hb1⟩; obtain ⟨A1, c1, rfl, hc1, _⟩ := own_slice hown1; have HR1 := hide (Reads.of_own hown1); have HB1 := hide (below_drawn hb1); clear hown1 hb1)
     | (go_at_call 7; refine (same_ne A1 (some ad) L (j + 1) c1 c y HD w1 HR1.out (unhide HHT w1 HB1.out) hmx HNE.out).mono ?_; rintro e w2 ⟨rfl, k2, hk2⟩; subst hk2))
    all_goals (clear hw1 hw2 hw3 hw4; go_wp2; go_ret3; exact ⟨rfl, below_drewN HB1.out _⟩)
   ·obtain ⟨he, hdec⟩ := CG.out hv hB
    have HE := fun W => refInt_any z W hin
    rw [he] at HE e9
    have hlen : HD.length = j + 1 := by have := HT.out.1; rw [BV_len] at this; omega
    rw [hlen] at HE
    have HE := hide HE
    obtain rfl := HCV.out
    subst hdec
    generalize hvv : vk 0 t j = m at *
    have HVV := hide hvv
    clear hvv hB hin he CG CB CI DB HCV hlen
    have hmx : j + 1 ≤ maxLen := by unfold maxLen; omega
    have hw4 : (j : Int) + 1 ≤ (c : Int) := by omega
    have hw2 : (0 : Int) ≤ (j : Int) + 1 := by omega
    have hw3 : ((j : Int) + 1).toNat = j + 1 := by omega
    go_upto_region 24 with fail
    have hw1 : IntKind.i64.wrap ((j : Int) + 1) = (j : Int) + 1 := IntWalk.i64_in _ (by omega)
    go_region_with (first
     | (go_at_call 26; refine (unhide HE _).mono ?_; rintro e w1 ⟨v1, rfl, hown1, hb1⟩; obtain ⟨A1, c1, rfl, hc1, _⟩ := own_slice hown1; have HR1 := hide (Reads.of_own hown1); have HB1 := hide (below_drawn hb1); clear hown1 hb1)
     | (go_at_call 7; refine (same_eqF A1 (some ad) (j + 1) c1 c (BV HD) _ w1 HX.out HR1.out (unhide HHT w1 HB1.out) hmx).mono ?_; rintro e w2 ⟨rfl, k2, hk2⟩; subst hk2))
    all_goals (clear hw1 hw2 hw3 hw4; go_wp2; go_ret3; exact ⟨by first | (simp; done) | simp [HVV.out], below_drewN HB1.out _⟩)
theorem refGetInt_any (A : Option Addr) (n c : Nat) (l : List UInt8) (w : World) (hr : Reads w w.heap.size 1 A n (BV l)) (hm : n ≤ maxLen) (hnc : n ≤ c) :
  Calls Tryd.prog 35 #[.slice A n c] w fun e w' => e = .returned (.tuple #[.int .i64 (Wr.decI l).1, .int .i64 (Wr.decI l).2.1, .int .i64 (Wr.decI l).2.2]) ∧ Below w.heap.size w w' := by
 have hn : n = l.length := by have := hr.1; simp [BV] at this; omega
 cases l with
 | nil =>
  simp at hn
  subst hn
  exact (refGetInt_nil A c w).mono fun e w' he => by obtain ⟨rfl, rfl⟩ := he; exact ⟨rfl, Below.refl _ _⟩
 | cons h t =>
  have hn' : n = t.length + 1 := hn
  obtain ⟨ad, rfl, _, _⟩ := hr.2 (by omega)
  by_cases hk : 8 < Wr.kOf h ∨ t.length < Wr.kOf h
  ·refine (refGetInt_early ad n c h t w hr hm hk).mono fun e w' he => ?_
   obtain ⟨rfl, rfl⟩ := he
   refine ⟨?_, Below.refl _ _⟩
   rw [Wr.decI_cons]
   by_cases h8 : 8 < Wr.kOf h
   ·rw [if_pos h8, if_pos h8]; rfl
   ·rw [if_neg h8, if_neg h8, if_pos (by omega)]; rfl
  ·have h8 : Wr.kOf h ≤ 8 := by omega
   have hl : Wr.kOf h ≤ t.length := by omega
   by_cases hs : h.toNat < 128
   ·exact refGetInt_loop_neg ad n c h t w hr hm hnc h8 hl hs
   ·exact refGetInt_loop_pos ad n c h t w hr hm hnc h8 hl hs
set_option maxHeartbeats 400000 in
set_option maxRecDepth 100000 in
theorem refCount_any (A : Option Addr) (n c : Nat) (l : List UInt8) (size : Nat) (w : World) (hr : Reads w w.heap.size 1 A n (BV l)) (hm : n ≤ 17592186044416) (hnc : n ≤ c) (hs1 : 1 ≤ size) (hs2 : size ≤ 16) :
  Calls Tryd.prog 59 #[.slice A n c, .int .i64 (size : Int)] w fun e w' => e = .returned (.tuple #[.int .i64 (Wr.decLen size l).1, .int .i64 (Wr.decLen size l).2.1, .int .i64 (Wr.decLen size l).2.2]) ∧ Below w.heap.size w w' := by
 have hn : n = l.length := by have := hr.1; simp [BV] at this; omega
 have H := refGetInt_any A n c l w hr (by unfold maxLen; omega) hnc
 have hu : (Wr.decI l).2.2 = 0 → (Wr.decI l).2.1 ≤ n ∧ Wr.inI (Wr.decI l).1 := fun h0 => by
  have := Wr.enc_dec (l := l) (n := (Wr.decI l).1) (u := (Wr.decI l).2.1) (by rw [← h0])
  exact ⟨by omega, this.1⟩
 have he := Wr.decI_errs l
 have hdef : Wr.decLen size l = if (Wr.decI l).2.2 ≠ 0 then (0, 0, (Wr.decI l).2.2) else if (Wr.decI l).1 < 0 then (0, 0, 2) else if ((n - (Wr.decI l).2.1 : Nat) : Int) / (size : Int) < (Wr.decI l).1 then (0, 0, 3) else Wr.decI l := by rw [hn]; rfl
 generalize hL : Wr.decLen size l = L at *
 generalize Wr.decI l = d at *
 obtain ⟨z, u, er⟩ := d
 simp only at H hu he hdef
 clear hr hn hL
 have H := hide H
 by_cases h1 : er = 0
 ·subst h1
  obtain ⟨hu1, hu2⟩ := hu rfl
  unfold Wr.inI at hu2
  rw [if_neg (by simp)] at hdef
  clear hu he
  by_cases h2 : z < 0
  ·rw [if_pos h2] at hdef
   subst hdef
   go_enter Tryd.func59, Tryd.ntmps59
   go_wp2_with (go_at_call 35; refine (unhide H).mono ?_; rintro e w1 ⟨rfl, hb1⟩; have HB := hide hb1; clear hb1)
   go_ret3
   exact ⟨rfl, HB.out⟩
  ·rw [if_neg h2] at hdef
   have hq : ((n : Int) - (u : Int)) = ((n - u : Nat) : Int) := by omega
   have hiff : ((n - u : Nat) : Int) / (size : Int) < z ↔ ((n - u : Nat) : Int) < z * (size : Int) := by
    rw [← Int.not_le, ← Int.not_le, Int.le_ediv_iff_mul_le (by omega)]
   by_cases h3 : (n : Int) < z
   ·have hge : z * 1 ≤ z * (size : Int) := Int.mul_le_mul_of_nonneg_left (by omega) (by omega)
    rw [if_pos (hiff.2 (by omega))] at hdef
    subst hdef
    clear hiff hq hge
    go_enter Tryd.func59, Tryd.ntmps59
    go_wp2_with (go_at_call 35; refine (unhide H).mono ?_; rintro e w1 ⟨rfl, hb1⟩; have HB := hide hb1; clear hb1)
    go_ret3
    exact ⟨rfl, HB.out⟩
   ·have hp1 : 0 ≤ z * (size : Int) := Int.mul_nonneg (by omega) (by omega)
    have hp2 : z * (size : Int) ≤ 17592186044416 * 16 := by
     have a1 : z * (size : Int) ≤ 17592186044416 * (size : Int) := Int.mul_le_mul_of_nonneg_right (by omega) (by omega)
     omega
    have hcmp : decide ((n : Int) < z) = false := by rw [decide_eq_false_iff_not]; exact h3
    by_cases h4 : ((n - u : Nat) : Int) < z * (size : Int)
    ·rw [if_pos (hiff.2 h4)] at hdef
     subst hdef
     have h5 : (n : Int) - (u : Int) < z * (size : Int) := by omega
     clear hiff hq h4
     generalize hpp : z * (size : Int) = pr at *
     have HPP := hide hpp
     go_enter Tryd.func59, Tryd.ntmps59
     go_wp2_with (go_at_call 35; refine (unhide H).mono ?_; rintro e w1 ⟨rfl, hb1⟩; have HB := hide hb1; clear hb1)
     go_ret3
     exact ⟨rfl, HB.out⟩
    ·rw [if_neg (fun x => h4 (hiff.1 x))] at hdef
     subst hdef
     have h5 : ¬ (n : Int) - (u : Int) < z * (size : Int) := by omega
     clear hiff hq h4
     generalize hpp : z * (size : Int) = pr at *
     have HPP := hide hpp
     go_enter Tryd.func59, Tryd.ntmps59
     go_wp2_with (go_at_call 35; refine (unhide H).mono ?_; rintro e w1 ⟨rfl, hb1⟩; have HB := hide hb1; clear hb1)
     go_ret3
     exact ⟨rfl, HB.out⟩
 ·rw [if_pos (by simpa using h1)] at hdef
  subst hdef
  have hb' : (er != 0) = true := by rw [bne_iff_ne]; exact h1
  clear hu he
  go_enter Tryd.func59, Tryd.ntmps59
  go_wp2_with (go_at_call 35; refine (unhide H).mono ?_; rintro e w1 ⟨rfl, hb1⟩; have HB := hide hb1; clear hb1)
  go_ret3
  exact ⟨rfl, HB.out⟩
set_option maxHeartbeats 400000 in
set_option maxRecDepth 100000 in
theorem refGetBytes_err (A : Option Addr) (n c : Nat) (l : List UInt8) (w : World) (hr : Reads w w.heap.size 1 A n (BV l)) (hm : n ≤ 17592186044416) (hnc : n ≤ c) (he : (Wr.decLen 1 l).2.2 ≠ 0) :
  Calls Tryd.prog 36 #[.slice A n c] w fun e w' => e = .returned (.tuple #[.string (S []), .int .i64 0, .int .i64 (Wr.decLen 1 l).2.2]) ∧ Below w.heap.size w w' := by
 have H := hide (refCount_any A n c l 1 w hr hm hnc (by omega) (by omega))
 generalize Wr.decLen 1 l = d at *
 obtain ⟨z, u, er⟩ := d
 simp only at he H ⊢
 have hb' : (er != 0) = true := by rw [bne_iff_ne]; exact he
 clear hr he
 rw [S_nil]
 go_enter Tryd.func36, Tryd.ntmps36
 go_wp2_with (go_at_call 59; refine (unhide H).mono ?_; rintro e w1 ⟨rfl, hb1⟩; have HB := hide hb1; clear hb1)
 go_ret3
 exact ⟨rfl, HB.out⟩
set_option maxHeartbeats 400000 in
set_option maxRecDepth 100000 in
theorem refGetBytes_ok (ad : Addr) (n c : Nat) (l : List UInt8) (w : World) (hr : Reads w w.heap.size 1 (some ad) n (BV l)) (hm : n ≤ 17592186044416) (hnc : n ≤ c) (z u : Nat) (hd : Wr.decLen 1 l = ((z : Int), u, 0)) (hu : 1 ≤ u) (hz : u + z ≤ n) :
  Calls Tryd.prog 36 #[.slice (some ad) n c] w fun e w' => e = .returned (.tuple #[.string (S ((l.drop u).take z)), .int .i64 ((u + z : Nat) : Int), .int .i64 0]) ∧ Below w.heap.size w w' := by
 have H := refCount_any (some ad) n c l 1 w hr hm hnc (by omega) (by omega)
 rw [hd] at H
 have H := hide H
 clear hd
 have hn : n = l.length := by have := hr.1; simp [BV] at this; omega
 by_cases hcu : c = u
 ·have hz0 : z = 0 := by omega
  subst hz0
  have hc1 := hide (fun (W : World) c' => run_conv_reads (P := Tryd.prog) (reads_zero W W.heap.size (some ad)) 23 9 5 c' Tryd.underlying23 Tryd.underlying5 Tryd.underlying9)
  have hun : u = n := by omega
  clear hr hn
  rw [List.take_zero]
  generalize S [] = s at *
  subst hcu
  subst hun
  go_enter Tryd.func36, Tryd.ntmps36
  go_wp2_with (go_at_call 59; refine (unhide H).mono ?_; rintro e w1 ⟨rfl, hb1⟩; have HB := hide hb1; have hcv := unhide hc1 w1; clear hb1)
  go_ret3
  exact ⟨by simp, HB.out⟩
 ·have hconv := hide (fun (W : World) (hW : Below w.heap.size w W) c' => run_conv_reads (P := Tryd.prog) ((reads_sub hr u z hz).below hW) 23 9 5 c' Tryd.underlying23 Tryd.underlying5 Tryd.underlying9)
  clear hr hn
  generalize S ((l.drop u).take z) = s at *
  go_enter Tryd.func36, Tryd.ntmps36
  go_wp2_with (go_at_call 59; refine (unhide H).mono ?_; rintro e w1 ⟨rfl, hb1⟩; have HB := hide hb1; have hcv := unhide hconv w1 hb1; clear hb1)
  go_ret3
  exact ⟨by simp, HB.out⟩
theorem refGetBytes_any (A : Option Addr) (n c : Nat) (l : List UInt8) (w : World) (hr : Reads w w.heap.size 1 A n (BV l)) (hm : n ≤ 17592186044416) (hnc : n ≤ c) :
  Calls Tryd.prog 36 #[.slice A n c] w fun e w' => e = .returned (.tuple #[.string (S (Wr.decB l).1), .int .i64 (Wr.decB l).2.1, .int .i64 (Wr.decB l).2.2]) ∧ Below w.heap.size w w' := by
 have hn : n = l.length := by have := hr.1; simp [BV] at this; omega
 unfold Wr.decB
 by_cases he : (Wr.decLen 1 l).2.2 = 0
 ·obtain ⟨_, _, h1, h2, h3⟩ := Wr.decLen_ok (by omega) he
  rw [if_neg (by simpa using he)]
  obtain ⟨ad, rfl, _, _⟩ := hr.2 (by omega)
  exact refGetBytes_ok ad n c l w hr hm hnc (Wr.decLen 1 l).1.toNat (Wr.decLen 1 l).2.1 (by rw [Int.toNat_of_nonneg h1, ← he]) h2 (by omega)
 ·rw [if_pos (by simpa using he)]
  exact refGetBytes_err A n c l w hr hm hnc he
set_option maxHeartbeats 400000 in
set_option maxRecDepth 100000 in
theorem refGetStrings_err (A : Option Addr) (n c : Nat) (l : List UInt8) (w : World) (hr : Reads w w.heap.size 1 A n (BV l)) (hm : n ≤ 17592186044416) (hnc : n ≤ c) (he : (Wr.decLen 1 l).2.2 ≠ 0) :
  Calls Tryd.prog 37 #[.slice A n c] w fun e w' => e = .returned (.tuple #[.slice none 0 0, .int .i64 0, .int .i64 (Wr.decLen 1 l).2.2]) ∧ Below w.heap.size w w' := by
 have H := hide (refCount_any A n c l 1 w hr hm hnc (by omega) (by omega))
 generalize Wr.decLen 1 l = d at *
 obtain ⟨z, u, er⟩ := d
 simp only at he H ⊢
 have hb' : (er != 0) = true := by rw [bne_iff_ne]; exact he
 clear hr he
 go_enter Tryd.func37, Tryd.ntmps37
 go_wp2_with (go_at_call 59; refine (unhide H).mono ?_; rintro e w1 ⟨rfl, hb1⟩; have HB := hide hb1; clear hb1)
 go_ret3
 exact ⟨rfl, HB.out⟩
structure RefMidStr (w : World) (n z : Nat) (l : List UInt8) (R : List (List UInt8) × Nat × Int) (k us : Nat) (vs : List (List UInt8)) (v : Value) (wr : World) : Prop where
 len : vs.length = k
 le : us ≤ n
 rest : Wr.comb vs us (Wr.decLoop Wr.decB (z - k) (l.drop us)) = R
 own : wr.ownsRow w.heap.size 9 1 v k (vs.map VS)
 old : Below w.heap.size w wr
set_option maxHeartbeats 1000000 in
set_option maxRecDepth 100000 in
theorem refGetStrings_ok (ad : Addr) (n c : Nat) (l : List UInt8) (w : World) (hr : Reads w w.heap.size 1 (some ad) n (BV l)) (hm : n ≤ 1099511627776) (hnc : n ≤ c) (z u : Nat) (hd : Wr.decLen 1 l = ((z : Int), u, 0)) (hz : u + z ≤ n)
  (R : List (List UInt8) × Nat × Int) (hR : Wr.comb [] u (Wr.decLoop Wr.decB z (l.drop u)) = R) :
  Calls Tryd.prog 37 #[.slice (some ad) n c] w fun e w' =>
   ∃ v, e = .returned (.tuple #[v, .int .i64 R.2.1, .int .i64 R.2.2]) ∧ w'.ownsRow w.heap.size 9 1 v R.1.length (R.1.map VS) ∧ Below w.heap.size w w' := by
 have hn : n = l.length := by have := hr.1; simp [BV] at this; omega
 have H := refCount_any (some ad) n c l 1 w hr (by omega) hnc (by omega) (by omega)
 rw [hd] at H
 have H := hide H
 have HN := hide hn
 have HR := hide hr
 have HE := hide hR
 clear hr hn hd hR
 obtain ⟨i0, hi, hz0, hz1, hz2⟩ := info_parts StrInfo
 have HI := hide hi
 have HZ0 := hide hz0
 have HZ1 := hide hz1
 have HZ2 := hide hz2
 clear hi hz0 hz1 hz2
 go_enter Tryd.func37, Tryd.ntmps37
 go_wp2_with (go_at_call 59; refine (unhide H).mono ?_; rintro e w1 ⟨rfl, hb1⟩; have HB1 := hide hb1; clear hb1)
 go_loopw [6, 8, 9] (fun a v i wr => ∃ (k us : Nat) (vs : List (List UInt8)), k ≤ z ∧ i = .int .i64 (k : Int) ∧ a = .int .i64 (us : Int) ∧ RefMidStr w n z l R k us vs v wr) (fun _ _ i _ => z - (intOf i).toNat)
 case atStart => exact ⟨0, u, [], Nat.zero_le _, rfl, rfl, ⟨rfl, by omega, HE.out, World.ownsRow_nil _ _ _ _, HB1.out⟩⟩
 case round =>
  obtain ⟨k, us, vs, hk, rfl, rfl, hmid⟩ := hrel
  obtain ⟨wd, rfl⟩ : ∃ wd, wd = wr := ⟨wr, rfl⟩
  by_cases hlt : k < z
  ·have hrw : Reads wd wd.heap.size 1 (some ad) n (BV l) := (HR.out.below hmid.old).more hmid.old.size
   have husl := hmid.le
   have hcut := reads_rest hrw us husl
   have hend := Wr.comb_err Wr.decB vs us (z - k - 1) (l.drop us)
   have hok := Wr.comb_ok Wr.decB vs us (z - k - 1) (l.drop us)
   have hrest := hmid.rest
   rw [show z - k = z - k - 1 + 1 by omega] at hrest
   rw [hrest] at hend hok
   have hused := Wr.decB_used (l.drop us)
   rw [List.length_drop, ← HN.out] at hused
   rw [List.drop_drop] at hok
   have C : ∀ ad' c', Reads wd wd.heap.size 1 (some ad') (n - us) (BV (l.drop us)) → n - us ≤ c' → Calls Tryd.prog 36 #[.slice (some ad') (n - us) c'] wd _ := fun ad' c' h1 h2 => refGetBytes_any (some ad') (n - us) c' (l.drop us) wd h1 (by omega) h2
   have hempty : c = us → (Wr.decB (l.drop us)).2.2 = 3 ∧ n = us := fun hcu => by
    have : l.drop us = [] := List.drop_eq_nil_of_le (by have := HN.out; omega)
    rw [this]
    exact ⟨rfl, by omega⟩
   generalize hdd : Wr.decB (l.drop us) = dd at *
   obtain ⟨v, uu, er⟩ := dd
   simp only at C hend hok hused hempty
   have C := hide C
   have HEND := hide hend
   have HOK := hide hok
   have HCUT := hide hcut
   have HO := hide hmid.own
   have HB := hide hmid.old
   have HLEN := hide hmid.len
   clear hend hok hrest hcut hrw hmid hdd
   by_cases hcu : c = us
   ·obtain ⟨he3, hnu⟩ := hempty hcu
    subst he3
    subst hcu
    subst hnu
    have hHC := HCUT.out
    have hCC := fun h => C.out ad 0 h
    rw [Nat.sub_self] at hCC hHC
    have HCC := hide (hCC (by have := hHC.1; exact ⟨this, fun h => absurd h (by omega)⟩) (by omega))
    clear hCC hHC hempty
    go_wp2_with (go_at_call 36; refine (unhide HCC).mono ?_; rintro e w5 ⟨rfl, hb5⟩; have HB5 := hide hb5; clear hb5)
    go_ret3
    rw [HEND.out (by simp)]
    exact ⟨_, rfl, World.ownsRow_nil _ _ _ _, below_then HB.out HB5.out⟩
   ·clear hempty
    have HCC := hide (C.out (ad.add us) (c - us) HCUT.out (by omega))
    by_cases h0 : er = 0
    ·subst h0
     have HOKD := hide (HOK.out (by first | exact rfl | trivial))
     clear HOK
     go_wp2_with (first
      | (go_at_call 36; refine (unhide HCC).mono ?_; rintro e w5 ⟨rfl, hb5⟩; have HO5 := hide (own_below HO.out hb5); have HB5 := hide (below_then HB.out hb5); have hsz5 := HB5.out.size; clear hb5)
      | (at_builtin; refine wpList_append_any _ rfl (.tmp 38) (.tmp 40) 57 rfl w.heap.size 9 i0 (.string ByteArray.empty) 1 16 Tryd.underlying57 HI.out HZ0.out HZ1.out HZ2.out rfl (by omega) _ k _ rfl (HO5.out.alloc _) _ (some ⟨w5.heap.size, 0, none⟩) 1 1 [.string (S v)] rfl (reads_new w5 _ _) (by simp [Value.oneCell']) (by unfold maxLen; omega) (by omega) (by simp; omega) ?_; intro v6 w6 hown6 hgrow6 hat6; have HO6 := hide hown6; have HB6 := hide ((HB5.out.trans (below_alloc' w5 _ hsz5)).trans (below_grown hgrow6 (HO5.out.alloc _) (by simp; omega))); clear hown6 hgrow6 hat6))
     refine ⟨⟨k + 1, us + uu, vs ++ [v], by omega, by go_num, by go_num, ⟨by simp [HLEN.out], by omega, ?_, ?_, HB6.out⟩⟩, ?_⟩
     ·rw [show z - (k + 1) = z - k - 1 by omega]; exact HOKD.out.symm
     ·rw [List.map_append]; exact HO6.out
     ·simp [intOf]; omega
    ·have hb' : (er != 0) = true := by rw [bne_iff_ne]; exact h0
     have HEND := hide (HEND.out h0)
     clear h0
     go_wp2_with (go_at_call 36; refine (unhide HCC).mono ?_; rintro e w5 ⟨rfl, hb5⟩; have HB5 := hide hb5; clear hb5)
     go_ret3
     rw [HEND.out]
     exact ⟨_, rfl, World.ownsRow_nil _ _ _ _, below_then HB.out HB5.out⟩
  ·obtain rfl : k = z := by omega
   have hR : R = (vs, us, 0) := by
    have := hmid.rest
    rw [Nat.sub_self, Wr.comb_end] at this
    exact this.symm
   have HR2 := hide hR
   have HM := hide hmid
   clear hR hmid
   go_wp2
   go_ret3
   rw [HR2.out]
   have hm := HM.out
   refine ⟨_, rfl, ?_, hm.old⟩
   show World.ownsRow _ _ _ _ _ vs.length _
   rw [hm.len]
   exact hm.own
theorem refGetStrings_any (A : Option Addr) (n c : Nat) (l : List UInt8) (w : World) (hr : Reads w w.heap.size 1 A n (BV l)) (hm : n ≤ 1099511627776) (hnc : n ≤ c) :
  Calls Tryd.prog 37 #[.slice A n c] w fun e w' =>
   ∃ v, e = .returned (.tuple #[v, .int .i64 (Wr.decList 1 Wr.decB l).2.1, .int .i64 (Wr.decList 1 Wr.decB l).2.2]) ∧ w'.ownsRow w.heap.size 9 1 v (Wr.decList 1 Wr.decB l).1.length ((Wr.decList 1 Wr.decB l).1.map VS) ∧ Below w.heap.size w w' := by
 have hn : n = l.length := by have := hr.1; simp [BV] at this; omega
 unfold Wr.decList
 by_cases he : (Wr.decLen 1 l).2.2 = 0
 ·obtain ⟨_, _, h1, h2, h3⟩ := Wr.decLen_ok (by omega) he
  rw [if_neg (by simpa using he)]
  obtain ⟨ad, rfl, _, _⟩ := hr.2 (by omega)
  exact refGetStrings_ok ad n c l w hr hm hnc (Wr.decLen 1 l).1.toNat (Wr.decLen 1 l).2.1 (by rw [Int.toNat_of_nonneg h1, ← he]) (by omega) _ rfl
 ·rw [if_pos (by simpa using he)]
  exact (refGetStrings_err A n c l w hr (by omega) hnc he).mono fun e w' h => ⟨_, h.1, World.ownsRow_nil _ _ _ _, h.2⟩
end Go.Proofs.YtjnnohghgkjhcaaDoor
