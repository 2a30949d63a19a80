/-
  The reference's GetInt by its contract: it answers what the plain decoding answers.
-/
import Derived.Test.YtdjmfjmijpfijaaRef3
import Derived.Deep.RegionWith
import Derived.IntWalk
namespace Go.Proofs.Ytdjmfjmijpfijaa
open Go.RowKit
set_option linter.unusedVariables false
set_option linter.unusedSimpArgs false
theorem vk_grow (f : UInt8) (t : List UInt8) (j k : Nat) (hjk : j < k) (hk : k ≤ t.length) : vk f t j * 256 ≤ vk f t k := by
  induction k with
  | zero => omega
  | succ k ih =>
    rw [vk_succ f t k (by omega)]
    rcases Nat.lt_or_ge j k with h | h
    · have := ih h (by omega)
      omega
    · obtain rfl : j = k := by omega
      omega
theorem kOf_val (h : UInt8) : Wr.kOf h = if h.toNat < 128 then 127 - h.toNat else h.toNat - 128 := by
  have H : ∀ h : Fin 256, Wr.kOf (UInt8.ofNat h.val) = if (UInt8.ofNat h.val).toNat < 128 then 127 - (UInt8.ofNat h.val).toNat else (UInt8.ofNat h.val).toNat - 128 := by decide +kernel
  have := H ⟨h.toNat, h.toNat_lt⟩
  simpa only [UInt8.ofNat_toNat] using this
/-- the integer that a full head and its bytes stand for -/
def candOf (h : UInt8) (t : List UInt8) : Int := if h < 128 then -1 - (vk (Wr.flipOf h) t (Wr.kOf h) : Int) else (vk (Wr.flipOf h) t (Wr.kOf h) : Int)
theorem cand_inI (h : UInt8) (t : List UInt8) (hv : vk (Wr.flipOf h) t (Wr.kOf h) ≤ 9223372036854775807) : Wr.inI (candOf h t) := by
  unfold candOf Wr.inI; split <;> omega
theorem cand_good (h : UInt8) (t : List UInt8) (hk8 : Wr.kOf h ≤ 8) (hl : Wr.kOf h ≤ t.length) (hv : vk (Wr.flipOf h) t (Wr.kOf h) ≤ 9223372036854775807) (hb : ¬ (0 < Wr.kOf h ∧ t.head? = some (Wr.flipOf h))) :
    Wr.enc (candOf h t) = (h :: t).take (Wr.kOf h + 1) ∧ Wr.decI (h :: t) = (candOf h t, Wr.kOf h + 1, 0) := by
  have h1 := dec_good h t hk8 hl (fun x => x.elim hb (by omega))
  have h2 := Wr.enc_dec h1
  rw [Nat.add_comm 1] at h1 h2
  exact ⟨h2.2.2.2.2.symm, h1⟩
theorem cand_bad (h : UInt8) (t : List UInt8) (hk8 : Wr.kOf h ≤ 8) (hl : Wr.kOf h ≤ t.length) (hv : vk (Wr.flipOf h) t (Wr.kOf h) ≤ 9223372036854775807) (hb : 0 < Wr.kOf h ∧ t.head? = some (Wr.flipOf h)) :
    Wr.enc (candOf h t) ≠ (h :: t).take (Wr.kOf h + 1) ∧ Wr.decI (h :: t) = (0, 0, 2) := by
  have h1 := dec_bad h t hk8 hl (.inl hb)
  refine ⟨fun he => ?_, h1⟩
  have h2 := Wr.dec_enc (cand_inI h t hv) ((h :: t).drop (Wr.kOf h + 1))
  rw [he, List.take_append_drop, h1] at h2
  simp at h2
theorem BV_item (L : List UInt8) : ∀ k, (hk : k < (BV L).length) → (BV L)[k] = .int .u8 ((L.getD k 0).toNat : Int) := fun k hk => by
  have hk' : k < L.length := by rw [BV_len] at hk; exact hk
  simp [BV, List.getD, hk']
theorem reads_plus {w : World} {B n : Nat} {ad : Addr} {l : List UInt8} (hr : Reads w B 1 (some ad) n (BV l)) (i : Nat) (hi : i + 1 < l.length) : w.cell? ⟨ad.block, ad.off + (i + 1), none⟩ = some (.int .u8 ((l[i + 1]'hi).toNat : Int)) := by
  have := reads_far hr i hi
  rwa [Nat.add_assoc, Nat.add_comm 1 i] at this
theorem reads_head {w : World} {B n : Nat} {ad : Addr} {l : List UInt8} (hr : Reads w B 1 (some ad) n (BV l)) (z : Nat) (h : z ≤ n) : Reads w B 1 (some ad) z (BV (l.take z)) := by
  have := reads_sub hr 0 z (by omega)
  rwa [List.drop_zero, show ad.add 0 = ad by simp [Addr.add]] at this

set_option maxHeartbeats 400000 in
set_option maxRecDepth 100000 in
theorem refGetInt_nil (A : Option Addr) (c : Nat) (w : World) :
    Calls Try.prog 44 #[.slice A 0 c] w fun e w' => e = .returned (.tuple #[.int .i64 0, .int .i64 0, .int .i64 3]) ∧ w = w' := by
  go_enter Try.func44, Try.ntmps44
  go_wp2
  go_ret3
  exact ⟨rfl, rfl⟩

set_option maxHeartbeats 400000 in
set_option maxRecDepth 100000 in
theorem refGetInt_early (ad : Addr) (n c : Nat) (h : UInt8) (t : List UInt8) (w : World) (hr : Reads w w.heap.size 1 (some ad) n (BV (h :: t))) (hm : n ≤ maxLen) (hk : 8 < Wr.kOf h ∨ t.length < Wr.kOf h) :
    Calls Try.prog 44 #[.slice (some ad) n c] w fun e w' => e = .returned (.tuple #[.int .i64 0, .int .i64 0, .int .i64 (if 8 < Wr.kOf h then 2 else 3)]) ∧ w = w' := by
  have hn : n = t.length + 1 := by have := hr.1; simp [BV] at this; omega
  have hc : w.cell? ad = some (.int .u8 (h.toNat : Int)) := reads_cell hr 0 (by simp)
  have h0 : ((n : Int) == 0) = false := by rw [beq_eq_false_iff_ne]; omega
  have hp : 0 < n := by omega
  have hkv := kOf_val h
  have hb := h.toNat_lt
  unfold maxLen at hm
  generalize Wr.kOf h = k at *
  generalize h.toNat = hd at *
  have HC := hide hc
  by_cases hs : hd < 128
  · rw [if_pos hs] at hkv
    by_cases hk8 : 8 < k
    · rw [if_pos hk8]
      have h1 : (hd : Int) < 119 := by omega
      clear hr hn hkv
      go_enter Try.func44, Try.ntmps44
      go_wp2
      go_ret3
      exact ⟨rfl, rfl⟩
    · rw [if_neg hk8]
      have h1 : ¬ (hd : Int) < 119 := by omega
      have h2 : ¬ (136 : Int) < (hd : Int) := by omega
      have h3 : (hd : Int) < 128 := by omega
      have hl : (n : Int) < 127 - (hd : Int) + 1 := by omega
      clear hr hn hkv
      go_enter Try.func44, Try.ntmps44
      go_wp2
      go_ret3
      exact ⟨rfl, rfl⟩
  · rw [if_neg hs] at hkv
    by_cases hk8 : 8 < k
    · rw [if_pos hk8]
      have h1 : ¬ (hd : Int) < 119 := by omega
      have h2 : (136 : Int) < (hd : Int) := by omega
      clear hr hn hkv
      go_enter Try.func44, Try.ntmps44
      go_wp2
      go_ret3
      exact ⟨rfl, rfl⟩
    · rw [if_neg hk8]
      have h1 : ¬ (hd : Int) < 119 := by omega
      have h2 : ¬ (136 : Int) < (hd : Int) := by omega
      have h3 : ¬ (hd : Int) < 128 := by omega
      have hl : (n : Int) < (hd : Int) - 128 + 1 := by omega
      clear hr hn hkv
      go_enter Try.func44, Try.ntmps44
      go_wp2
      go_ret3
      exact ⟨rfl, rfl⟩

set_option maxHeartbeats 400000 in
set_option maxRecDepth 100000 in
theorem refGetInt_loop_neg (ad : Addr) (n c : Nat) (h : UInt8) (t : List UInt8) (w : World) (hr : Reads w w.heap.size 1 (some ad) n (BV (h :: t))) (hm : n ≤ maxLen) (hnc : n ≤ c) (hk8 : Wr.kOf h ≤ 8) (hl : Wr.kOf h ≤ t.length) (hs : h.toNat < 128) :
    Calls Try.prog 44 #[.slice (some ad) n c] w fun e w' => e = .returned (.tuple #[.int .i64 (Wr.decI (h :: t)).1, .int .i64 (Wr.decI (h :: t)).2.1, .int .i64 (Wr.decI (h :: t)).2.2]) ∧ Below w.heap.size w w' := by
  have hn : n = t.length + 1 := by have := hr.1; simp [BV] at this; omega
  have hc : w.cell? ad = some (.int .u8 (h.toNat : Int)) := reads_cell hr 0 (by simp)
  have h0 : ((n : Int) == 0) = false := by rw [beq_eq_false_iff_ne]; omega
  have hp : 0 < n := by omega
  have hb0 := h.toNat_lt
  have hkv := kOf_val h
  rw [if_pos hs] at hkv
  obtain ⟨hfl, hlt128⟩ := flip_neg h hs
  have DB := hide (dec_bad h t hk8 hl)
  have CG := hide (cand_good h t hk8 hl)
  have CB := hide (cand_bad h t hk8 hl)
  have CI := hide (cand_inI h t)
  have CV : candOf h t = -1 - (vk 255 t (Wr.kOf h) : Int) := by unfold candOf; rw [if_pos hlt128, hfl]
  rw [hfl] at DB CG CB CI
  have HR := hide hr
  have HN := hide hn
  have HT := hide (reads_head hr (Wr.kOf h + 1) (by omega))
  have HX := hide (BV_item ((h :: t).take (Wr.kOf h + 1)))
  have HLT := hide hl
  generalize hcz : candOf h t = z at *
  generalize hdd : Wr.decI (h :: t) = D at *
  generalize hhd : (h :: t).take (Wr.kOf h + 1) = HD at *
  generalize hkk : Wr.kOf h = k at *
  have hl1 : k + 1 ≤ n := by omega
  have HK := hide hkk
  have HCV := hide CV
  clear hr hn hfl hlt128 hl hkk hhd hdd hcz CV
  unfold maxLen at hm
  generalize h.toNat = hd at *
  have h1 : ¬ (hd : Int) < 119 := by omega
  have h2 : ¬ (136 : Int) < (hd : Int) := by omega
  have h3 : (hd : Int) < 128 := by omega
  have hsub : (127 : Int) - (hd : Int) = (k : Int) := by omega
  clear hkv
  go_enter Try.func44, Try.ntmps44
  go_wp2
  go_loop [7, 8] (fun m i => ∃ j : Nat, j ≤ k ∧ i = .int .i64 ((j : Int) + 1) ∧ m = .int .i64 (vk 255 t j) ∧ vk 255 t j ≤ 9223372036854775807) (fun _ i => k + 1 - (intOf i).toNat)
  case atStart => exact ⟨0, Nat.zero_le _, rfl, rfl, by rw [vk_zero]; omega⟩
  case round =>
    obtain ⟨j, hj, rfl, rfl, hv⟩ := hrel
    by_cases hlt : j < k
    · have hjt : j < t.length := by have := HLT.out; omega
      have hcell := reads_plus HR.out j (by simp; omega)
      simp only [List.getElem_cons_succ] at hcell
      have hb := (t[j]).toNat_lt
      have HV := hide (vk_succ 255 t j hjt)
      have hgrow := vk_grow 255 t j k hlt HLT.out
      have hxx : (t[j] ^^^ 255).toNat = 255 - (t[j]).toNat := by rw [Wr.xor_toNat]
      have HXX := hide hxx
      have HF := hide (fun (hM : 36028797018963967 < vk 255 t j) => DB.out (.inr (by rw [HK.out] at *; omega)))
      clear hxx hgrow
      generalize (t[j] ^^^ 255).toNat = b' at *
      generalize (t[j]).toNat = b at *
      generalize hvv : vk 255 t j = m at *
      by_cases hM : 36028797018963967 < m
      · have HF := hide (HF.out hM)
        have hM' : (36028797018963967 : Int) < (m : Int) := by omega
        go_wp2
        go_ret3
        rw [HF.out]
        exact ⟨rfl, Below.refl _ _⟩
      · have hM' : ¬ (36028797018963967 : Int) < (m : Int) := by omega
        go_wp2
        go_round
        case rel => exact ⟨j + 1, by omega, by go_num, by rw [HV.out, HXX.out]; go_num, by rw [HV.out, HXX.out]; omega⟩
        case measure => simp [intOf]; omega
    · obtain rfl : j = k := by omega
      have hin := CI.out hv
      have e9 := Wr.enc_le z
      have HHT := hide (fun (W : World) (hb : Below w.heap.size w W) => (HT.out.below hb).more hb.size)
      by_cases hB : 0 < j ∧ t.head? = some 255
      · obtain ⟨hne, hdec⟩ := CB.out hv hB
        have HE := hide (fun W => refInt_any z W hin)
        generalize Wr.enc z = y at *
        generalize hL : y.length = L at *
        obtain rfl := HCV.out
        subst hdec
        have HNE := hide hne
        generalize vk 255 t j = m at *
        clear hne hB hin hL CG CB CI DB HX HCV
        have hmx : L ≤ maxLen := by unfold maxLen; omega
        have hw4 : (j : Int) + 1 ≤ (c : Int) := by omega
        have hw2 : (0 : Int) ≤ (j : Int) + 1 := by omega
        have hw3 : ((j : Int) + 1).toNat = j + 1 := by omega
        go_upto_region 24 with fail
        have hw1 : IntKind.i64.wrap ((j : Int) + 1) = (j : Int) + 1 := IntWalk.i64_in _ (by omega)
        go_region_with (first
          | (go_at_call 46; refine (unhide HE _).mono ?_; rintro e w1 ⟨v1, rfl, hown1, hb1⟩; obtain ⟨A1, c1, rfl, hc1, _⟩ := own_slice hown1; have HR1 := hide (Reads.of_own hown1); have HB1 := hide (below_drawn hb1); clear hown1 hb1)
          | (go_at_call 6; refine (same_ne A1 (some ad) L (j + 1) c1 c y HD w1 HR1.out (unhide HHT w1 HB1.out) hmx HNE.out).mono ?_; rintro e w2 ⟨rfl, k2, hk2⟩; subst hk2))
        all_goals (clear hw1 hw2 hw3 hw4; go_wp2; go_ret3; exact ⟨rfl, below_drewN HB1.out _⟩)
      · obtain ⟨he, hdec⟩ := CG.out hv hB
        have HE := fun W => refInt_any z W hin
        rw [he] at HE e9
        have hlen : HD.length = j + 1 := by have := HT.out.1; rw [BV_len] at this; omega
        rw [hlen] at HE
        have HE := hide HE
        obtain rfl := HCV.out
        subst hdec
        generalize hvv : vk 255 t j = m at *
        have HVV := hide hvv
        clear hvv hB hin he CG CB CI DB HCV hlen
        have hmx : j + 1 ≤ maxLen := by unfold maxLen; omega
        have hw4 : (j : Int) + 1 ≤ (c : Int) := by omega
        have hw2 : (0 : Int) ≤ (j : Int) + 1 := by omega
        have hw3 : ((j : Int) + 1).toNat = j + 1 := by omega
        go_upto_region 24 with fail
        have hw1 : IntKind.i64.wrap ((j : Int) + 1) = (j : Int) + 1 := IntWalk.i64_in _ (by omega)
        go_region_with (first
          | (go_at_call 46; refine (unhide HE _).mono ?_; rintro e w1 ⟨v1, rfl, hown1, hb1⟩; obtain ⟨A1, c1, rfl, hc1, _⟩ := own_slice hown1; have HR1 := hide (Reads.of_own hown1); have HB1 := hide (below_drawn hb1); clear hown1 hb1)
          | (go_at_call 6; refine (same_eqF A1 (some ad) (j + 1) c1 c (BV HD) _ w1 HX.out HR1.out (unhide HHT w1 HB1.out) hmx).mono ?_; rintro e w2 ⟨rfl, k2, hk2⟩; subst hk2))
        all_goals (clear hw1 hw2 hw3 hw4; go_wp2; go_ret3; exact ⟨by first | (simp; done) | simp [HVV.out], below_drewN HB1.out _⟩)

set_option maxHeartbeats 400000 in
set_option maxRecDepth 100000 in
theorem refGetInt_loop_pos (ad : Addr) (n c : Nat) (h : UInt8) (t : List UInt8) (w : World) (hr : Reads w w.heap.size 1 (some ad) n (BV (h :: t))) (hm : n ≤ maxLen) (hnc : n ≤ c) (hk8 : Wr.kOf h ≤ 8) (hl : Wr.kOf h ≤ t.length) (hs : ¬ h.toNat < 128) :
    Calls Try.prog 44 #[.slice (some ad) n c] w fun e w' => e = .returned (.tuple #[.int .i64 (Wr.decI (h :: t)).1, .int .i64 (Wr.decI (h :: t)).2.1, .int .i64 (Wr.decI (h :: t)).2.2]) ∧ Below w.heap.size w w' := by
  have hn : n = t.length + 1 := by have := hr.1; simp [BV] at this; omega
  have hc : w.cell? ad = some (.int .u8 (h.toNat : Int)) := reads_cell hr 0 (by simp)
  have h0 : ((n : Int) == 0) = false := by rw [beq_eq_false_iff_ne]; omega
  have hp : 0 < n := by omega
  have hb0 := h.toNat_lt
  have hkv := kOf_val h
  rw [if_neg hs] at hkv
  obtain ⟨hfl, hlt128⟩ := flip_pos h hs
  have DB := hide (dec_bad h t hk8 hl)
  have CG := hide (cand_good h t hk8 hl)
  have CB := hide (cand_bad h t hk8 hl)
  have CI := hide (cand_inI h t)
  have CV : candOf h t = (vk 0 t (Wr.kOf h) : Int) := by unfold candOf; rw [if_neg hlt128, hfl]
  rw [hfl] at DB CG CB CI
  have HR := hide hr
  have HN := hide hn
  have HT := hide (reads_head hr (Wr.kOf h + 1) (by omega))
  have HX := hide (BV_item ((h :: t).take (Wr.kOf h + 1)))
  have HLT := hide hl
  generalize hcz : candOf h t = z at *
  generalize hdd : Wr.decI (h :: t) = D at *
  generalize hhd : (h :: t).take (Wr.kOf h + 1) = HD at *
  generalize hkk : Wr.kOf h = k at *
  have hl1 : k + 1 ≤ n := by omega
  have HK := hide hkk
  have HCV := hide CV
  clear hr hn hfl hlt128 hl hkk hhd hdd hcz CV
  unfold maxLen at hm
  generalize h.toNat = hd at *
  have h1 : ¬ (hd : Int) < 119 := by omega
  have h2 : ¬ (136 : Int) < (hd : Int) := by omega
  have h3 : ¬ (hd : Int) < 128 := by omega
  have hsub : (hd : Int) - 128 = (k : Int) := by omega
  clear hkv
  go_enter Try.func44, Try.ntmps44
  go_wp2
  go_loop [7, 8] (fun m i => ∃ j : Nat, j ≤ k ∧ i = .int .i64 ((j : Int) + 1) ∧ m = .int .i64 (vk 0 t j) ∧ vk 0 t j ≤ 9223372036854775807) (fun _ i => k + 1 - (intOf i).toNat)
  case atStart => exact ⟨0, Nat.zero_le _, rfl, rfl, by rw [vk_zero]; omega⟩
  case round =>
    obtain ⟨j, hj, rfl, rfl, hv⟩ := hrel
    by_cases hlt : j < k
    · have hjt : j < t.length := by have := HLT.out; omega
      have hcell := reads_plus HR.out j (by simp; omega)
      simp only [List.getElem_cons_succ] at hcell
      have hb := (t[j]).toNat_lt
      have HV := hide (vk_succ 0 t j hjt)
      have hgrow := vk_grow 0 t j k hlt HLT.out
      have hxx : (t[j] ^^^ 0).toNat = (t[j]).toNat := by rw [UInt8.xor_zero]
      have HXX := hide hxx
      have HF := hide (fun (hM : 36028797018963967 < vk 0 t j) => DB.out (.inr (by rw [HK.out] at *; omega)))
      clear hxx hgrow
      generalize (t[j] ^^^ 0).toNat = b' at *
      generalize (t[j]).toNat = b at *
      generalize hvv : vk 0 t j = m at *
      by_cases hM : 36028797018963967 < m
      · have HF := hide (HF.out hM)
        have hM' : (36028797018963967 : Int) < (m : Int) := by omega
        go_wp2
        go_ret3
        rw [HF.out]
        exact ⟨rfl, Below.refl _ _⟩
      · have hM' : ¬ (36028797018963967 : Int) < (m : Int) := by omega
        go_wp2
        go_round
        case rel => exact ⟨j + 1, by omega, by go_num, by rw [HV.out, HXX.out]; go_num, by rw [HV.out, HXX.out]; omega⟩
        case measure => simp [intOf]; omega
    · obtain rfl : j = k := by omega
      have hin := CI.out hv
      have e9 := Wr.enc_le z
      have HHT := hide (fun (W : World) (hb : Below w.heap.size w W) => (HT.out.below hb).more hb.size)
      by_cases hB : 0 < j ∧ t.head? = some 0
      · obtain ⟨hne, hdec⟩ := CB.out hv hB
        have HE := hide (fun W => refInt_any z W hin)
        generalize Wr.enc z = y at *
        generalize hL : y.length = L at *
        obtain rfl := HCV.out
        subst hdec
        have HNE := hide hne
        generalize vk 0 t j = m at *
        clear hne hB hin hL CG CB CI DB HX HCV
        have hmx : L ≤ maxLen := by unfold maxLen; omega
        have hw4 : (j : Int) + 1 ≤ (c : Int) := by omega
        have hw2 : (0 : Int) ≤ (j : Int) + 1 := by omega
        have hw3 : ((j : Int) + 1).toNat = j + 1 := by omega
        go_upto_region 24 with fail
        have hw1 : IntKind.i64.wrap ((j : Int) + 1) = (j : Int) + 1 := IntWalk.i64_in _ (by omega)
        go_region_with (first
          | (go_at_call 46; refine (unhide HE _).mono ?_; rintro e w1 ⟨v1, rfl, hown1, hb1⟩; obtain ⟨A1, c1, rfl, hc1, _⟩ := own_slice hown1; have HR1 := hide (Reads.of_own hown1); have HB1 := hide (below_drawn hb1); clear hown1 hb1)
          | (go_at_call 6; refine (same_ne A1 (some ad) L (j + 1) c1 c y HD w1 HR1.out (unhide HHT w1 HB1.out) hmx HNE.out).mono ?_; rintro e w2 ⟨rfl, k2, hk2⟩; subst hk2))
        all_goals (clear hw1 hw2 hw3 hw4; go_wp2; go_ret3; exact ⟨rfl, below_drewN HB1.out _⟩)
      · obtain ⟨he, hdec⟩ := CG.out hv hB
        have HE := fun W => refInt_any z W hin
        rw [he] at HE e9
        have hlen : HD.length = j + 1 := by have := HT.out.1; rw [BV_len] at this; omega
        rw [hlen] at HE
        have HE := hide HE
        obtain rfl := HCV.out
        subst hdec
        generalize hvv : vk 0 t j = m at *
        have HVV := hide hvv
        clear hvv hB hin he CG CB CI DB HCV hlen
        have hmx : j + 1 ≤ maxLen := by unfold maxLen; omega
        have hw4 : (j : Int) + 1 ≤ (c : Int) := by omega
        have hw2 : (0 : Int) ≤ (j : Int) + 1 := by omega
        have hw3 : ((j : Int) + 1).toNat = j + 1 := by omega
        go_upto_region 24 with fail
        have hw1 : IntKind.i64.wrap ((j : Int) + 1) = (j : Int) + 1 := IntWalk.i64_in _ (by omega)
        go_region_with (first
          | (go_at_call 46; refine (unhide HE _).mono ?_; rintro e w1 ⟨v1, rfl, hown1, hb1⟩; obtain ⟨A1, c1, rfl, hc1, _⟩ := own_slice hown1; have HR1 := hide (Reads.of_own hown1); have HB1 := hide (below_drawn hb1); clear hown1 hb1)
          | (go_at_call 6; refine (same_eqF A1 (some ad) (j + 1) c1 c (BV HD) _ w1 HX.out HR1.out (unhide HHT w1 HB1.out) hmx).mono ?_; rintro e w2 ⟨rfl, k2, hk2⟩; subst hk2))
        all_goals (clear hw1 hw2 hw3 hw4; go_wp2; go_ret3; exact ⟨by first | (simp; done) | simp [HVV.out], below_drewN HB1.out _⟩)

/-- the reference's GetInt, for every slice of bytes -/
theorem refGetInt_any (A : Option Addr) (n c : Nat) (l : List UInt8) (w : World) (hr : Reads w w.heap.size 1 A n (BV l)) (hm : n ≤ maxLen) (hnc : n ≤ c) :
    Calls Try.prog 44 #[.slice A n c] w fun e w' => e = .returned (.tuple #[.int .i64 (Wr.decI l).1, .int .i64 (Wr.decI l).2.1, .int .i64 (Wr.decI l).2.2]) ∧ Below w.heap.size w w' := by
  have hn : n = l.length := by have := hr.1; simp [BV] at this; omega
  cases l with
  | nil =>
    simp at hn
    subst hn
    exact (refGetInt_nil A c w).mono fun e w' he => by obtain ⟨rfl, rfl⟩ := he; exact ⟨rfl, Below.refl _ _⟩
  | cons h t =>
    have hn' : n = t.length + 1 := hn
    obtain ⟨ad, rfl, _, _⟩ := hr.2 (by omega)
    by_cases hk : 8 < Wr.kOf h ∨ t.length < Wr.kOf h
    · refine (refGetInt_early ad n c h t w hr hm hk).mono fun e w' he => ?_
      obtain ⟨rfl, rfl⟩ := he
      refine ⟨?_, Below.refl _ _⟩
      rw [Wr.decI_cons]
      by_cases h8 : 8 < Wr.kOf h
      · rw [if_pos h8, if_pos h8]; rfl
      · rw [if_neg h8, if_neg h8, if_pos (by omega)]; rfl
    · have h8 : Wr.kOf h ≤ 8 := by omega
      have hl : Wr.kOf h ≤ t.length := by omega
      by_cases hs : h.toNat < 128
      · exact refGetInt_loop_neg ad n c h t w hr hm hnc h8 hl hs
      · exact refGetInt_loop_pos ad n c h t w hr hm hnc h8 hl hs

end Go.Proofs.Ytdjmfjmijpfijaa
