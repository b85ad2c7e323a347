/- The laws SumsBack and SumsMore: their walks. -/
import Derived.Test.YtopedbkefncfnaaSumsG
import Derived.Test.YtopedbkefncfnaaAppend
namespace Go.Proofs.Ytopedbkefncfnaa
open Go.RowKit

theorem dig_hex : ∀ d : Fin 16, digZ (hexDigit d.val) = (d.val : Int) := by decide +kernel
theorem hex_dig_all : ∀ n : Fin 256, 0 ≤ digZ (UInt8.ofNat n.val) → hexDigit (digZ (UInt8.ofNat n.val)).toNat = UInt8.ofNat n.val := by decide +kernel
theorem hex_dig (c : UInt8) (h : 0 ≤ digZ c) : hexDigit (digZ c).toNat = c := by
  have := hex_dig_all ⟨c.toNat, c.toNat_lt⟩
  simp only [UInt8.ofNat_toNat] at this
  exact this h
theorem foldl_num (l : List UInt8) : ∀ y : Nat, l.foldl (fun x c => x * 16 + (digZ c).toNat) y = y * 16 ^ l.length + numTo l := by
  unfold numTo
  induction l with
  | nil => intro y; simp
  | cons c l ih =>
    intro y
    rw [List.foldl_cons, List.foldl_cons, ih, ih (0 * 16 + _), List.length_cons, Nat.pow_succ]
    rw [Nat.add_mul, Nat.zero_mul, Nat.zero_add, Nat.mul_assoc, Nat.mul_comm 16, Nat.add_assoc]
theorem numTo_cons (c : UInt8) (l : List UInt8) : numTo (c :: l) = (digZ c).toNat * 16 ^ l.length + numTo l := by
  have := foldl_num l (digZ c).toNat
  rw [← this, numTo, List.foldl_cons]
  simp
theorem num_hex (x : Nat) : ∀ n, numTo (hexTo x n) = x % 16 ^ n
  | 0 => by simp [numTo, hexTo, Nat.mod_one]
  | n + 1 => by
    rw [hexTo, numTo_cons, hexTo_len, num_hex x n, Nat.mod_pow_succ]
    have := dig_hex ⟨x / 16 ^ n % 16, Nat.mod_lt _ (by omega)⟩
    dsimp only at this
    rw [this, Int.toNat_natCast, Nat.mul_comm, Nat.add_comm]
theorem ok_hex (x : Nat) : ∀ n, okTo (hexTo x n) = true
  | 0 => rfl
  | n + 1 => by
    have h := ok_hex x n
    have := dig_hex ⟨x / 16 ^ n % 16, Nat.mod_lt _ (by omega)⟩
    dsimp only at this
    unfold okTo at *
    rw [hexTo, List.all_cons, h, this]
    simp
    omega
theorem hex_add (a y : Nat) (k : Nat) : ∀ n, n ≤ k → hexTo (a * 16 ^ k + y) n = hexTo y n
  | 0, _ => rfl
  | n + 1, h => by
    rw [hexTo, hexTo, hex_add a y k n (by omega)]
    have e : a * 16 ^ k = (a * 16 ^ (k - n - 1) * 16) * 16 ^ n := by
      rw [Nat.mul_assoc, Nat.mul_assoc, ← Nat.pow_succ', ← Nat.pow_add]
      congr 2
      omega
    rw [e, Nat.add_comm, Nat.add_mul_div_right _ _ (Nat.pow_pos (by omega)), Nat.add_mul_mod_self_right]
theorem numTo_lt' (l : List UInt8) : numTo l < 16 ^ l.length := by
  have := numTo_lt l l.length (Nat.le_refl _)
  rwa [List.take_length] at this
theorem hex_num : ∀ (l : List UInt8), okTo l = true → hexTo (numTo l) l.length = l
  | [], _ => rfl
  | c :: l, h => by
    unfold okTo at h
    rw [List.all_cons, Bool.and_eq_true] at h
    have hl := numTo_lt' l
    have hc : 0 ≤ digZ c := by simpa using h.1
    have hd := (digZ_bd c).2
    rw [List.length_cons, hexTo, numTo_cons, hex_add _ _ _ _ (Nat.le_refl _), hex_num l h.2]
    rw [Nat.add_comm, Nat.add_mul_div_right _ _ (Nat.pow_pos (by omega)), Nat.div_eq_of_lt hl, Nat.zero_add, Nat.mod_eq_of_lt (by omega), hex_dig c hc]
theorem unhex_hexB (h : Int) : unhexB (hexS h) = true := by
  have hx : word h % 4611686018427387904 < 4611686018427387904 := Nat.mod_lt _ (by omega)
  unfold unhexB hexS
  rw [hexTo_len, ok_hex, num_hex, Nat.mod_eq_of_lt (Nat.lt_trans hx (by decide))]
  simp
  omega
theorem unhex_hex (h : Int) : unhexZ (hexS h) = ((word h % 4611686018427387904 : Nat) : Int) := by
  have hx : word h % 4611686018427387904 < 4611686018427387904 := Nat.mod_lt _ (by omega)
  unfold unhexZ
  rw [if_pos (unhex_hexB h)]
  unfold hexS
  rw [num_hex, Nat.mod_eq_of_lt (Nat.lt_trans hx (by decide))]
theorem hex_unhex {l : List UInt8} (h : unhexB l = true) : hexS (unhexZ l) = l := by
  unfold unhexZ
  rw [if_pos h]
  unfold unhexB at h
  simp only [Bool.and_eq_true, decide_eq_true_eq] at h
  obtain ⟨⟨h1, h2⟩, h3⟩ := h
  unfold hexS
  rw [show word (numTo l : Int) % 4611686018427387904 = numTo l by unfold word; omega, ← h1]
  exact hex_num l h2

set_option maxHeartbeats 1000000 in
theorem back_walk (w : World) (n : Int) (_ : Fits n) (l : List UInt8) (_ : l.length ≤ maxLen) : Calls Try.prog 7 #[.int .i64 n, .string ⟨l.toArray⟩] w (Ret (.bool true) w) := by
  by_cases hl : 300 < l.length
  · have hl' : 300 < (l.length : Int) := by omega
    go_enter Try.func7, Try.ntmps7
    go_wp2_with fail
    refine (awake_any _).mono ?_
    rintro e w1 ⟨rfl, h1⟩
    go_wp2
    go_ret
    exact Ret.mk rfl h1
  · have hl' : (l.length : Int) ≤ 300 := by omega
    have hsh : wrap64 (IntKind.u64.wrap (IntKind.u64.wrap n * 4) / 4) = (word n : Int) % 4611686018427387904 := by
      rw [IntKind.wrap_u64, IntKind.wrap_u64]
      unfold wrap64 word
      omega
    clear hl
    go_enter Try.func7, Try.ntmps7
    go_wp2_with fail
    refine (hex_any n _).mono ?_
    rintro e w1 ⟨rfl, h1⟩
    go_wp2_with fail
    refine (unhex_is (hexS n) (unhex_hex n) (unhex_hexB n) _).mono ?_
    rintro e w2 ⟨rfl, h2⟩
    have H2 := Below.step h1 h2
    rcases Bool.eq_false_or_eq_true (unhexB l) with hx | hx
    · have HX := Lib.hid hx
      have HH := Lib.hid (hex_unhex hx)
      clear hx
      go_wp2_with fail
      refine (unhex_is l rfl HX.out _).mono ?_
      rintro e w3 ⟨rfl, h3⟩
      have H3 := Below.step H2 h3
      go_wp2_with fail
      refine (hex_is _ HH.out _).mono ?_
      rintro e w4 ⟨rfl, h4⟩
      have H4 := Below.step H3 h4
      go_wp2_with fail
      refine (awake_any _).mono ?_
      rintro e w5 ⟨rfl, h5⟩
      go_wp2
      go_ret
      exact Ret.mk rfl (Below.step H4 h5)
    · have HX := Lib.hid hx
      have HZ : Hid (unhexZ l = 0) := Lib.hid (by rw [unhexZ, hx]; rfl)
      clear hx
      go_wp2_with fail
      refine (unhex_is l HZ.out HX.out _).mono ?_
      rintro e w3 ⟨rfl, h3⟩
      have H3 := Below.step H2 h3
      go_wp2_with fail
      refine (awake_any _).mono ?_
      rintro e w5 ⟨rfl, h5⟩
      go_wp2
      go_ret
      exact Ret.mk rfl (Below.step H3 h5)

theorem hashL_mod (l : List UInt8) : ∀ u : Nat, hashL (u % 4611686018427387904) l % 4611686018427387904 = hashL u l % 4611686018427387904 := by
  induction l with
  | nil => intro u; rw [hashL, hashL, List.foldl_nil, List.foldl_nil, Nat.mod_mod]
  | cons c l ih =>
    intro u
    have e1 : ∀ x, hashL x (c :: l) = hashL (hashByte x c) l := fun x => by rw [hashL, hashL, List.foldl_cons]
    rw [e1, e1, ← ih (hashByte (u % 4611686018427387904) c), ← ih (hashByte u c), hashByte_mod, hashByte_mod u, Nat.mod_mod]
theorem more_add (h : Int) (a b : List UInt8) : moreZ (moreZ h a : Int) b = moreZ h (a ++ b) := by
  unfold moreZ
  rw [show word ((hashL (word h) a % 4611686018427387904 : Nat) : Int) = hashL (word h) a % 4611686018427387904 by unfold word; omega, hashL_mod]
  rw [hashL, hashL, hashL, List.foldl_append]

theorem Bytes.of_own {w : World} {base : Nat} {T : TypeId} {A : Option Addr} {n c : Nat} {l : List UInt8} (hn : l.length = n) (h : w.ownsRow base T 1 (.slice A n c) n (l.map fun c => Value.int .u8 c.toNat)) : Bytes w A l := by
  subst hn
  exact Reads.of_own h
theorem info_u8 : (Try.prog.info? 5).map (fun i => (i.zero, i.size, i.bytes)) = some (some (.int .u8 0), 1, 1) := by kernel_rfl
theorem one_u8 (l : List UInt8) : ∀ u ∈ l.map fun c => Value.int .u8 (c.toNat : Int), u.oneCell' = true := by
  intro u hu
  obtain ⟨c, _, rfl⟩ := List.mem_map.1 hu
  rfl
theorem more_is {h : Int} {l : List UInt8} {x : Nat} (e : moreZ h l = x) {A : Option Addr} {cap : Nat} {w : World} (hv : Bytes w A l) (hl : l.length ≤ maxLen) :
    Calls Try.prog 17 #[.int .i64 h, .slice A l.length cap] w (Ret (.int .i64 (x : Int)) w) := e ▸ more_any h l A cap w hv hl

set_option maxHeartbeats 1000000 in
theorem more_walk (w : World) (h : Int) (_ : Fits h) (a : List UInt8) (A : Option Addr) (ca : Nat) (hl : a.length ≤ maxLen) (ha : Bytes w A a) (b : List UInt8) (B : Option Addr) (cb : Nat) (hlb : b.length ≤ maxLen) (hb : Bytes w B b) :
    Calls Try.prog 8 #[.int .i64 h, .slice A a.length ca, .slice B b.length cb] w (Ret (.bool true) w) := by
  rcases Bool.eq_false_or_eq_true (fewB a b) with hf | hf
  · have HF := Lib.hid hf
    have hab : a.length ≤ 5000 ∧ b.length ≤ 5000 := by simpa [fewB] using hf
    obtain ⟨hla, hlb'⟩ := hab
    have HM := Lib.hid (more_add h a b)
    have HH := Lib.hid (more_add 860922984064492325 a b)
    clear hf
    obtain ⟨i0, hi0, hz0, hz1, hz2⟩ := info_parts info_u8
    go_enter Try.func8, Try.ntmps8
    go_wp2_with fail
    refine (few_two HF.out A B ca cb _).mono ?_
    rintro e w1 ⟨rfl, h1⟩
    go_wp2_with (first
      | (at_builtin
         refine wpList_append_any _ rfl (.tmp 13) (.tmp 14) _ rfl w1.heap.size 5 i0 _ 1 1 Try.underlying22 hi0 hz0 hz1 hz2 rfl (by omega) (.slice none 0 0) 0 [] rfl
           ⟨by simp, .inl ⟨rfl, rfl⟩⟩ w1.heap.size A a.length ca _ rfl (ha.below h1) (one_u8 a) (by simp only [maxLen]; omega) (by omega) (Nat.le_refl _) ?_
         intro v1 w2 hown1 hg1 hat1
         have hbw1 : Below w1.heap.size w1 w2 := (Below.refl _ _).grown hg1 (Nat.le_refl _) (by simp [Value.ownBlock]))
      | (at_builtin
         refine wpList_append_any _ rfl (.tmp 16) (.tmp 17) _ rfl w1.heap.size 5 i0 _ 1 1 Try.underlying22 hi0 hz0 hz1 hz2 rfl (by omega) v1 (0 + a.length) ([] ++ _) rfl
           hown1 w2.heap.size B b.length cb _ rfl ((hb.below h1).below hbw1) (one_u8 b) (by simp only [maxLen]; omega) (by omega) hbw1.size ?_
         intro v2 w3 hown2 hg2 hat2))
    obtain ⟨A2, c2, rfl⟩ := own_form hown2
    have hall := Bytes.of_own (l := a ++ b) (n := 0 + a.length + b.length) (by simp) (by simpa using hown2)
    have hL : a.length + b.length ≤ maxLen := by simp only [maxLen]; omega
    have H2 : Below w.heap.size w w2 := Below.step h1 hbw1
    have hbw2 : Below w1.heap.size w1 w3 := hbw1.grown hg2 hbw1.size (own_at (v := .slice none 0 0) (by simp [Value.ownBlock]) (Nat.le_refl _) hat1 (rfl : w1 = w1))
    have H3 : Below w.heap.size w w3 := Below.step h1 hbw2
    have HOwn := Lib.hid hall
    clear hown2 hown1 hg1 hg2 hat1 hat2 hall hi0 hz0 hz1 hz2
    go_wp2_with fail
    refine (more_any h a A ca _ (ha.below H3) hl).mono ?_
    rintro e w4 ⟨rfl, h4⟩
    have H4 := Below.step H3 h4
    go_wp2_with fail
    refine (more_is HM.out (hb.below H4) hlb).mono ?_
    rintro e w5 ⟨rfl, h5⟩
    have H5 := Below.step H4 h5
    have all5 := Lib.hid ((HOwn.out.below h4).below h5)
    go_wp2_with fail
    have hc := more_any h (a ++ b) A2 c2 w5 all5.out (by rw [List.length_append]; exact hL)
    rw [List.length_append] at hc
    refine hc.mono ?_
    clear hc
    generalize moreZ h (a ++ b) = x
    rintro e w6 ⟨rfl, h6⟩
    have H6 := Below.step H5 h6
    have all6 := Lib.hid (all5.out.below h6)
    go_wp2_with fail
    refine (hash_any a A ca _ (ha.below H6) hl).mono ?_
    rintro e w7 ⟨rfl, h7⟩
    have H7 := Below.step H6 h7
    go_wp2_with fail
    refine (more_is HH.out (hb.below H7) hlb).mono ?_
    rintro e w8 ⟨rfl, h8⟩
    have H8 := Below.step H7 h8
    have all8 := Lib.hid ((all6.out.below h7).below h8)
    go_wp2_with fail
    have hc := hash_any (a ++ b) A2 c2 w8 all8.out (by rw [List.length_append]; exact hL)
    rw [List.length_append] at hc
    refine hc.mono ?_
    clear hc
    generalize moreZ 860922984064492325 (a ++ b) = y
    rintro e w9 ⟨rfl, h9⟩
    go_wp2_with fail
    refine (awake_any _).mono ?_
    rintro e w10 ⟨rfl, h10⟩
    go_wp2
    go_ret
    exact Ret.mk rfl (Below.step (Below.step H8 h9) h10)
  · have HF := Lib.hid hf
    clear hf
    go_enter Try.func8, Try.ntmps8
    go_wp2_with fail
    refine (few_two HF.out A B ca cb _).mono ?_
    rintro e w1 ⟨rfl, h1⟩
    go_wp2_with fail
    refine (awake_any _).mono ?_
    rintro e w4 ⟨rfl, h4⟩
    go_wp2
    go_ret
    exact Ret.mk rfl (Below.step h1 h4)
end Go.Proofs.Ytopedbkefncfnaa
