package lower_test

import (
	"strconv"
	"strings"
	"testing"
)

// TestStatements is of P8.1: each kind of statement, alone and within others.
func TestStatements(t *testing.T) {
	for body, want := range map[string]string{
		"":                                                 "",
		";{}{;{;}}put(1);":                                 "1",
		"1;x;a;-x;put(2);":                                 "2",
		"put(1);return 0;put(2);":                          "1",
		"if(1)put(1);if(0)put(2);":                         "1",
		"if(x)put(1);else put(2);":                         "2",
		"if(!x)put(1);else put(2);":                        "1",
		"if(1)if(x)put(1);else put(2);":                    "2",
		"if(x);else;put(3);":                               "3",
		"if(a)put(1);if(p)put(2);if(!p)put(3)":             "1 3",
		"while(x<3)put(x++);put(9);":                       "0 1 2 9",
		"while(x);put(1);":                                 "1",
		"while(x++<3);put(x);":                             "4",
		"do put(x);while(x++<2);":                          "0 1 2",
		"do put(5);while(0);":                              "5",
		"for(x=5;x>2;x--)put(x);put(x);":                   "5 4 3 2",
		"for(;x<2;)put(x++);":                              "0 1",
		"for(;;){if(x==3)break;put(x++);}":                 "0 1 2",
		"for(x=1;;x*=2)if(x>9)break;put(x);":               "16",
		"for(put(1);x<1;put(2))put(x++);":                  "1 0 2",
		"int y;put(y);y=4;put(y);":                         "0 4",
		"int y=3;int z=y*2;put(z);":                        "6",
		"int y[3];put(y[2]);y[2]=1;put(y[2]);":             "0 1",
		"{int x=7;put(x);{int x=8;put(x);}put(x);}put(x);": "7 8 7 0",
		"x=3;int x=x+1;put(x);":                            "4",
		"goto e;put(1);e:put(2);":                          "2",
		"l:put(x);if(x++<2)goto l;":                        "0 1 2",
	} {
		mainPuts(t, "int x;int a[4]={4,5,6,7};int*p;", strings.TrimRight(body, ";")+";", want)
	}
}

// TestLoops is of P8.1: break and continue, in loops of all kinds and in nested ones.
func TestLoops(t *testing.T) {
	for body, want := range map[string]string{
		"while(1){if(x==4)break;if(x++%2)continue;put(x);}":                                                 "1 3",
		"do{if(x==1)continue;put(x);if(x==3)break;}while(x++<9);":                                           "0 2 3",
		"for(x=0;x<6;x++){if(x==2)continue;if(x==4)break;put(x);}put(x);":                                   "0 1 3 4",
		"for(;x<3;x++){for(y=0;;y++){if(y==x)break;put(x*10+y);}}":                                          "10 20 21",
		"for(;x<3;x++){y=0;while(1){if(y++==1)continue;if(y>2)break;put(x*10+y);}if(x==1)continue;put(x);}": "1 0 11 21 2",
		"while(x<2){do{for(y=0;y<3;y++){if(y==1)continue;put(y);}if(x)break;}while(x++<1);put(7);x++;}":     "0 2 0 2 7",
		"do while(1)break;while(x++<3);put(x);":                                                             "4",
		"while(x<3)for(;;){x++;break;}put(x);":                                                              "3",
		"for(;;)for(;;){x++;goto e;}e:put(x);":                                                              "1",
		"for(x=0;x<2;x++){int v;put(v);v=5;put(v);}":                                                        "0 5 0 5",
		"for(x=0;x<2;x++){int v[2];put(v[1]);v[1]=5;int w[5];put(w[4]);w[4]=6;put(w[4]);}":                  "0 0 6 0 0 6",
		"for(x=0;x<3;x++){int v=x;int*q=&v;put(*q);*q=9;put(v);}":                                           "0 9 1 9 2 9",
		"l:{int v;int w[6];put(v+w[5]);v=1;w[5]=1;int*q=&v;*q=2;put(v+w[5]);}if(x++<1)goto l;":              "0 3 0 3",
		"while(x++<2){int v;if(x==2)goto e;v=3;e:put(v);}":                                                  "3 0",
	} {
		mainPuts(t, "int x;int y;", body, want)
	}
	ends(t, "int main(){for(;;);}", "fuel 0 []")
	ends(t, "int main(){while(1){}}", "fuel 0 []")
	ends(t, "int main(){do;while(1);}", "fuel 0 []")
	ends(t, "int main(){l:goto l;}", "fuel 0 []")
	ends(t, "int main(){put(1);for(;;)continue;}", "fuel 0 [1]")
	holds(t, "int main(){for(;;)put(get());}", 1, 2, 3)
	holds(t, "int main(){int i;while(1){put(i++);put(-i);}}")
}

// TestMadeAnew is of P8.1: what is declared again, of each kind and of each length up to 20, is 0 in
// all of its elements, and others stay.
func TestMadeAnew(t *testing.T) {
	for _, kind := range append(kinds(), "int*") {
		for n := 1; n <= 20; n++ {
			length, value := strconv.Itoa(n), "j+1"
			if kind == "int*" {
				value = "&g"
			}
			s := "int g;int main(){int i;int j;int k;" + kind + " x[3];for(j=0;j<3;j++)x[j]=" + value + ";" +
				"for(;i<3;i++){" + kind + " a[N];" + kind + " b[N];k=0;for(j=0;j<N;j++){if(a[j])k++;if(b[j])k++;a[j]=" + value + ";b[j]=" + value + ";}for(j=0;j<N;j++)if(a[j]&&b[j])k+=10;put(k);}for(j=0;j<3;j++)if(x[j])put(j);}"
			puts(t, strings.ReplaceAll(s, "N", length), repeated(int64(10*n), 3)+" 0 1 2")
		}
	}
}

// TestSwitches is of P8.1.
func TestSwitches(t *testing.T) {
	for body, want := range map[string]string{
		"switch(2){case 1:put(1);case 2:put(2);case 3:put(3);}":                                      "2 3",
		"switch(3){case 1:put(1);break;default:put(2);break;case 4:put(4);}put(9);":                  "2 9",
		"switch(3){case 1:put(1);}put(9);":                                                           "9",
		"switch(1)case 1:put(1);switch(2)case 1:put(2);switch(0);":                                   "1 2",
		"switch(3){put(1);default:put(2);case 1:put(3);}":                                            "2 3",
		"switch(x++){case 0:x=5;}put(x);":                                                            "5",
		"switch(7){case 1:while(x<3){put(x);case 7:x++;}}put(x);":                                    "1 2 3",
		"switch(5){{put(1);case 5:put(2);}if(0){case 6:put(3);}else put(4);}":                        "2 4",
		"switch(6){{put(1);case 5:put(2);}if(0){case 6:put(3);}else put(4);}":                        "3",
		"switch(1){case 1:switch(2){case 1:put(1);break;case 2:put(2);break;}put(3);case 2:put(4);}": "2 3 4",
		"switch(2){case 1:switch(2){case 2:put(1);default:put(2);}default:put(3);}":                  "3",
		"while(x<5){switch(x++){case 1:continue;case 3:break;default:put(x);}put(-x);}":              "1 -1 3 -3 -4 5 -5",
		"for(x=0;x<9;x++)switch(x){case 4:case 2:put(x);break;case 7:case 0:put(-x);}":               "0 2 4 -7",
		"for(;x<3;x++)switch(x){case 1:for(;;){break;}put(8);default:put(x);}":                       "0 8 1 2",
		"switch(2){case 1:;int v=7;case 2:put(v);v=3;put(v);}":                                       "0 3",
		"char c=-1;switch(c){case 255:put(1);break;case -1:put(2);}":                                 "2",
		"unsigned char c=-1;switch(c){case -1:put(1);break;case 255:put(2);}":                        "2",
		"unsigned int u=-1;switch(u){case 1:put(1);break;case -1:put(2);}":                           "2",
		"long l=4294967296;switch(l){case 0:put(1);break;case 4294967296:put(2);}":                   "2",
		"unsigned long l=-1;switch(l){case 0:put(1);break;case -1:put(2);}":                          "2",
		"switch(4294967296){case 0:put(1);break;default:put(2);}":                                    "2",
		"int i=4294967296;switch(i){case 4294967296:put(1);break;default:put(2);}":                   "1",
		"switch(sizeof(int)){case 4:put(1);}":                                                        "1",
		"switch(x=3){case 3:put(x);x=4;case 4:put(x);}":                                              "3 4",
		"switch(p?1:2){case 2:put(2);}switch(!p){case 1:put(1);}":                                    "2 1",
		"goto in;switch(1){case 1:put(1);in:put(2);}":                                                "2",
	} {
		mainPuts(t, "int x;int*p;", body, want)
	}
}

// TestManyCases is of P8.1: switches with more cases than are tried one by one, of all kinds of
// values, in whatever order they stand.
func TestManyCases(t *testing.T) {
	for kind, values := range map[string]string{
		"int":           "0 1 -1 2147483647 -2147483648 7 8 9 -3 100 -100 5",
		"unsigned int":  "0 1 -1 2147483647 2147483648 7 8 4294967294 3 100 5 2147483649",
		"long":          "0 1 -1 9223372036854775807 -9223372036854775807 7 2147483648 4294967296 -4294967296 3 5",
		"unsigned long": "0 1 -1 9223372036854775807 -9223372036854775807 7 2147483648 4294967296 -2 3 5",
		"char":          "0 1 -1 127 -128 128 255 256 7 8",
		"short":         "32767 -32768 32768 0 1 2 3 4 5 6",
	} {
		for _, others := range []string{"", "default:put(-7);", "default:;"} {
			body, in := "", []int64{}
			for i, v := range strings.Fields(values) {
				body += "case " + v + ":put(" + strconv.Itoa(i) + ");"
				n, _ := strconv.ParseInt(v, 10, 64)
				in = append(in, n, n-1, n+1)
				if i%3 == 1 {
					body += "break;"
				}
				if i == 4 {
					body += others
				}
			}
			s := "int main(){" + kind + " v;int i;for(i=0;i<" + strconv.Itoa(len(in)) + ";i++){v=get();switch(v){" + body + "}put(99);}}"
			if o, _ := holds(t, s, in...); o.Kind == 0 || len(o.Out) < len(in) {
				t.Errorf("%q: %s", s, show(o))
			}
		}
	}
	// In the order in which they stand, the other way round, and mixed.
	for _, step := range []int{1, 39, 7} {
		body := ""
		for i := range 40 {
			n := i * step % 40
			body += "case " + strconv.Itoa(3*n) + ":put(" + strconv.Itoa(n) + ");break;"
		}
		s := "int main(){int i;for(i=-1;i<122;i++)switch(i){" + body + "default:x:;}}"
		var want []string
		for i := range 40 {
			want = append(want, strconv.Itoa(i))
		}
		puts(t, s, strings.Join(want, " "))
	}
}

// TestGotos is of P8.1: forth and back, into blocks and loops and out of them.
func TestGotos(t *testing.T) {
	for body, want := range map[string]string{
		"goto b;a:put(1);goto c;b:put(2);goto a;c:;":                                    "2 1",
		"goto in;while(x<3){put(x);in:x++;}put(x);":                                     "1 2 3",
		"goto in;do{put(x);in:x++;}while(x<3);put(x);":                                  "1 2 3",
		"goto in;for(x=7;x<2;x++){put(5);in:put(x);}put(x);":                            "0 5 1 2",
		"goto in;if(x){put(1);in:put(2);}else put(3);put(4);":                           "2 4",
		"if(x){a:put(1);}else{put(2);goto a;}put(3);":                                   "2 1 3",
		"goto x;{int v=5;put(7);x:put(v);v=6;put(v);}":                                  "0 6",
		"int i=9;goto x;{int i=5;x:put(i);i=3;}put(i);":                                 "0 9",
		"for(;x<5;x++){while(1){if(x==3)goto out;put(x);goto next;}next:;}out:put(9);":  "0 1 2 9",
		"l:{int v;put(v);v=x+1;if(x++<2)goto l;put(v);}":                                "0 0 0 3",
		"l:{put(x);{if(x++<2)goto l;}}put(-x);":                                         "0 1 2 -3",
		"goto e;e:;goto f;f:goto g;g:put(x);":                                           "0",
		"switch(1){case 1:goto a;case 2:put(2);a:put(3);break;case 3:goto b;}b:put(4);": "3 4",
		"a:b:c:if(x++<3)goto b;put(x);":                                                 "4",
		"goto p;p:{int p=3;put(p);goto q;}q:put(1);":                                    "3 1",
		"return 0;l:put(1);goto l;":                                                     "",
		"goto e;for(;;)put(1);while(1);do;while(1);e:;":                                 "",
	} {
		mainPuts(t, "int x;", body, want)
	}
}

// TestEndOfFunctions is of P8.1: what falls off a function's end.
func TestEndOfFunctions(t *testing.T) {
	puts(t, "int main(){}", "")
	ends(t, "int main(){return 3;}", "exit 3 []")
	puts(t, "int x;void f(){x=2;}int main(){f();put(x);if(x)return 0;put(1);}", "2")
	puts(t, "int x;void f(){if(x++)return;put(5);}int main(){f();f();}", "5")
	puts(t, "int n;int main(){if(n++<1){put(main());put(5);}}", "0 5")
	ends(t, "int f(int a){if(a)return 1;}int main(){return f(1);}", "exit 1 []")
	ends(t, "int f(){exit(2);}int main(){f();put(1);}", "exit 2 []")
}
