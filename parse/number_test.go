package parse_test

import (
	"math"
	"math/big"
	"strconv"
	"strings"
	"testing"

	"gatehouse/api"
	"gatehouse/parse"
)

// numberPlaces are beginnings of texts behind each of which a number goes on.
func numberPlaces() []string {
	return []string{"subject a trust", "allow a on b : * above", "deny a on b : c below", "role x ; subject a , b trust"}
}

func levelOf(t *testing.T, text string) float64 {
	t.Helper()
	decls, err := parse.Decls([]api.Token{word("subject"), word("a"), word("trust"), number(text), sign(";")})
	if err != nil || len(decls) != 1 {
		t.Fatalf("trust %s: %+v, %v", text, decls, err)
	}
	return decls[0].Level
}

// nearest is reckoned by fractions, without the library's reading of floats.
func nearest(t *testing.T, text string) float64 {
	t.Helper()
	digits := strings.Replace(text, ".", "", 1)
	n, err := strconv.ParseInt(digits, 10, 64)
	if err != nil {
		t.Fatal(err)
	}
	base := int64(1)
	for range len(digits) - 1 {
		base *= 10
	}
	f, _ := big.NewRat(n, base).Float64()
	return f
}

func TestNumbersMeanTheNearestFloat(t *testing.T) {
	for text, want := range map[string]float64{"0": 0, "1": 1, "0.0": 0, "0.5": 0.5, "0.25": 0.25, "0.1": 0.1, "0.3": 0.3, "0.7": 0.7, "0.000000001": 1e-9, "0.999999999": 0.999999999, "0.123456789": 0.123456789, "0.000000000": 0, "0.100000000": 0.1} {
		if got := levelOf(t, text); got != want || math.Signbit(got) {
			t.Errorf("%s means %v, want %v", text, got, want)
		}
	}
	step := 1
	for size := 1; size <= 9; size++ {
		for n := 0; n < int(math.Pow10(size)); n += step {
			digits := strconv.Itoa(n)
			text := "0." + strings.Repeat("0", size-len(digits)) + digits
			if got := levelOf(t, text); got != nearest(t, text) {
				t.Fatalf("%s means %v, want %v", text, got, nearest(t, text))
			}
		}
		if size >= 3 {
			step = step*10 + 7
		}
	}
}

func TestNumbersOfRules(t *testing.T) {
	for _, text := range []string{"0", "1", "0.1", "0.123456789"} {
		for _, keyword := range []string{"above", "below"} {
			decls, err := parse.Decls(bare("allow a on b : * " + keyword + " " + text + " ;"))
			if err != nil || decls[0].Level != nearest(t, text) {
				t.Errorf("%s %s: %+v, %v", keyword, text, decls, err)
			}
		}
	}
}

func notNumbers() []string {
	return []string{"", "2", "00", "01", "1.0", "1.", "10", "0.", ".5", "0.1234567890", "0.12345678901", "-0", "+1", "0.5x", "0.-5", "0.+5", "0.5e1", "0. 5", " 0", "0 ", "0.5 ", "0,5", "0.5.5", "0x1", "0._5", "0.1_0", "1e0", "0b1", "a", "NaN", "Inf", "0.\u0661", "0.\xff", "\x00", "0.12345678a", "role", ";"}
}

func TestTokensThatAreNoNumbersWhereOneIsWanted(t *testing.T) {
	for _, ahead := range numberPlaces() {
		for _, text := range notNumbers() {
			wrong := api.Token{Kind: api.TokenNumber, Text: text, Line: 3, Col: 4}
			wantFault(t, append(bare(ahead), wrong, sign(";")), api.Fault{Code: api.ErrNumber, Line: 3, Col: 4, Word: text})
		}
	}
}

func TestTokensOfOtherKindsWhereANumberIsWanted(t *testing.T) {
	for _, ahead := range numberPlaces() {
		for _, wrong := range []api.Token{word("a"), word("0.5"), quoted("0.5"), quoted("1"), sign(";"), sign("1"), sign("*"), word("trust"), {Kind: 0, Text: "1"}, {Kind: 6, Text: "1"}} {
			wrong.Line, wrong.Col = 3, 4
			wantFault(t, append(bare(ahead), wrong, sign(";")), api.Fault{Code: api.ErrSyntax, Line: 3, Col: 4, Word: wrong.Text})
		}
	}
}

func TestNumberTokensWhereNoneIsWanted(t *testing.T) {
	for _, ahead := range []string{"", "role", "role a", "role a ,", "role a ;", "subject a", "subject", "subject a trust 1", "member", "member a", "member a :", "allow", "allow a", "allow a on", "allow a on b", "allow a on b :", "allow a on b : *", "allow a on b : c", "allow a on b : c above 1", "except a on b :", "except a on b : c"} {
		for _, text := range append(notNumbers(), "0", "1", "0.5") {
			wrong := api.Token{Kind: api.TokenNumber, Text: text, Line: 3, Col: 4}
			wantFault(t, append(bare(ahead), wrong, sign(";")), api.Fault{Code: api.ErrSyntax, Line: 3, Col: 4, Word: text})
		}
	}
}
